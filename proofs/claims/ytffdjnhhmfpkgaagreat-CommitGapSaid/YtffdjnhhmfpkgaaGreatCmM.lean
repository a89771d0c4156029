/- Commit records in plain words: which may be, their bytes, their sector; what is read of a sector; what a disk's two first sectors tell. No program is named here. -/
import Derived.Test.YtffdjnhhmfpkgaaGreatTz
import Derived.Test.YtffdjnhhmfpkgaaGreatR3
import Derived.Test.YtffdjnhhmfpkgaaGreatRA
import Derived.Test.YtffdjnhhmfpkgaaGreatDiskM
namespace Go.Proofs.YtffdjnhhmfpkgaaGreat
set_option maxRecDepth 1000000
set_option maxHeartbeats 8000000
open Go.RowKit
set_option linter.unusedVariables false
set_option linter.unusedSimpArgs false
structure Rcd where
 seq : Int
 slot : Int
 len : Int
 trial : Bool
 hash : List UInt8
 deriving DecidableEq
def Rcd.zero : Rcd := ⟨0, 0, 0, false, zeros32⟩
structure Rcd.In (r : Rcd) : Prop where
 seq : inI r.seq
 slot : inI r.slot
 len : inI r.len
 hash : r.hash.length = 32
theorem Rcd.In.zero : Rcd.zero.In := ⟨by unfold inI; decide, by unfold inI; decide, by unfold inI; decide, rfl⟩
def cmMay (r : Rcd) : Bool := decide (0 < r.seq) && (decide (0 ≤ r.slot) && (decide (r.slot < 2) && (decide (0 < r.len) && decide (r.len ≤ 4096))))
theorem cmMay_iff {r : Rcd} : cmMay r = true ↔ 0 < r.seq ∧ 0 ≤ r.slot ∧ r.slot < 2 ∧ 0 < r.len ∧ r.len ≤ 4096 := by
 unfold cmMay
 simp only [Bool.and_eq_true, decide_eq_true_eq]
def slotB (r : Rcd) : UInt8 := UInt8.ofNat (r.slot % 256).toNat
theorem slotB_is (r : Rcd) : ((slotB r).toNat : Int) = r.slot % 256 := by
 unfold slotB
 rw [UInt8.toNat_ofNat']
 omega
abbrev C5 := Int × (UInt8 × (Int × (Bool × List UInt8)))
def c5V (s : RS) : C5 := (intV s, byteV (s.next 8), intV ((s.next 8).next 1), decide ((((s.next 8).next 1).next 8).numb 1 = 1), tagV (flagS (((s.next 8).next 1).next 8)))
def c5S (s : RS) : RS := (flagS (((s.next 8).next 1).next 8)).next 32
def c5B (x : C5) : List UInt8 := enc (u64N x.1) 8 ++ ([x.2.1] ++ (enc (u64N x.2.2.1) 8 ++ ([flagB x.2.2.2.1] ++ x.2.2.2.2)))
def c5Ok (x : C5) : Prop := inI x.1 ∧ True ∧ inI x.2.2.1 ∧ True ∧ x.2.2.2.2.length = 32
theorem codec_c5 : Codec c5V c5S c5B c5Ok := codec_int.pair (codec_byteC.pair (codec_int.pair (codec_flag.pair codec_tag)))
def cmForm (r : Rcd) : List UInt8 := c5B (r.seq, slotB r, r.len, r.trial, r.hash)
theorem cmForm_len {r : Rcd} (h : r.hash.length = 32) : (cmForm r).length = 50 := by
 unfold cmForm c5B
 simp only [List.length_append, enc_len, h, List.length_cons, List.length_nil]
def cmSec (r : Rcd) : List UInt8 := frm 1 (cmForm r)
theorem cmSec_len {r : Rcd} (h : r.hash.length = 32) : (cmSec r).length = 64 := frm_len (by rw [cmForm_len h]; decide)
def cmGot (bs : List UInt8) : Rcd := ⟨(c5V (newRS bs)).1, ((c5V (newRS bs)).2.1.toNat : Int), (c5V (newRS bs)).2.2.1, (c5V (newRS bs)).2.2.2.1, (c5V (newRS bs)).2.2.2.2⟩
theorem cmGot_in (bs : List UInt8) : (cmGot bs).In := by
 refine ⟨wrap64_in _, ?_, wrap64_in _, tagV_len _⟩
 show inI (((c5V (newRS bs)).2.1.toNat : Int))
 have := (c5V (newRS bs)).2.1.toNat_lt
 unfold inI
 omega
def cmTells (bs : List UInt8) : Bool := decide (endV (c5S (newRS bs)) = 0) && cmMay (cmGot bs)
def cmRec (s : List UInt8) : Rcd := if openOk 1 s = true then cmGot (payl s) else Rcd.zero
def cmIs (s : List UInt8) : Bool := openOk 1 s && cmTells (payl s)
theorem cmRec_in (s : List UInt8) : (cmRec s).In := by
 unfold cmRec
 split
 ·exact cmGot_in _
 ·exact Rcd.In.zero
def cmAt (i : Int) (s : List UInt8) : Rcd := if (cmIs s && decide ((cmRec s).seq % 2 = i)) = true then cmRec s else Rcd.zero
theorem cmAt_in (i : Int) (s : List UInt8) : (cmAt i s).In := by
 unfold cmAt
 split
 ·exact cmRec_in s
 ·exact Rcd.In.zero
theorem cmIs_may {s : List UInt8} (h : cmIs s = true) : cmMay (cmRec s) = true := by
 unfold cmIs at h
 rw [Bool.and_eq_true] at h
 obtain ⟨h1, h2⟩ := h
 unfold cmTells at h2
 rw [Bool.and_eq_true] at h2
 unfold cmRec
 rw [if_pos h1]
 exact h2.2
theorem cmAt_cases (i : Int) (s : List UInt8) : cmAt i s = Rcd.zero ∨ (cmMay (cmAt i s) = true ∧ (cmAt i s).seq % 2 = i) := by
 unfold cmAt
 split
 ·rename_i h
  rw [Bool.and_eq_true] at h
  exact .inr ⟨cmIs_may h.1, of_decide_eq_true h.2⟩
 ·exact .inl rfl
theorem cm_tells {r : Rcd} (h : cmMay r = true) (hi : r.In) : cmGot (cmForm r) = r ∧ cmTells (cmForm r) = true := by
 obtain ⟨h1, h2, h3, h4, h5⟩ := cmMay_iff.1 h
 have hl := cmForm_len hi.hash
 have hn : newRS (cmForm r) = ⟨cmForm r ++ [], 0⟩ := by
  unfold newRS
  rw [if_neg (by omega), List.append_nil]
 obtain ⟨b1, b2⟩ := codec_c5.back (r.seq, slotB r, r.len, r.trial, r.hash) [] ⟨hi.seq, trivial, hi.len, trivial, hi.hash⟩
 have hg : cmGot (cmForm r) = r := by
  unfold cmGot
  rw [hn]
  unfold cmForm
  rw [b1]
  have hs : ((slotB r).toNat : Int) = r.slot := by rw [slotB_is]; omega
  show (⟨r.seq, ((slotB r).toNat : Int), r.len, r.trial, r.hash⟩ : Rcd) = r
  rw [hs]
 refine ⟨hg, ?_⟩
 unfold cmTells
 rw [hg, h, hn]
 unfold cmForm
 rw [b2]
 rfl
theorem cm_sec {r : Rcd} (h : cmMay r = true) (hi : r.In) : cmIs (cmSec r) = true ∧ cmRec (cmSec r) = r := by
 have hl : (cmForm r).length ≤ 58 := by rw [cmForm_len hi.hash]; decide
 have ho : openOk 1 (cmSec r) = true := by
  unfold cmSec
  rw [frm_open hl]
  exact decide_eq_true rfl
 have hp : payl (cmSec r) = cmForm r := frm_payl hl
 obtain ⟨h1, h2⟩ := cm_tells h hi
 unfold cmIs cmRec
 rw [ho, hp, h1, h2]
 exact ⟨rfl, rfl⟩
theorem cmAt_sec {r : Rcd} (h : cmMay r = true) (hi : r.In) : cmAt (r.seq % 2) (cmSec r) = r := by
 obtain ⟨h1, h2⟩ := cm_sec h hi
 unfold cmAt
 rw [h1, h2, decide_eq_true rfl]
 rfl
theorem cmAt_none {i : Int} {s : List UInt8} (h : openOk 1 s = false) : cmAt i s = Rcd.zero := by
 unfold cmAt cmIs
 rw [h]
 rfl
theorem cmAt_sec0 (i : Int) : cmAt i sec0 = Rcd.zero := cmAt_none (by
 unfold openOk
 rw [show decide (nth sec0 0 = (1 : UInt8).toNat) = false from rfl, Bool.and_false])
theorem cmAt_bad {i : Int} {s : List UInt8} (h : frOk s = false) : cmAt i s = Rcd.zero := cmAt_none (by unfold openOk; rw [h]; rfl)
def cmPair (l a : Rcd) : Rcd × Rcd × Int := if l = Rcd.zero then (Rcd.zero, Rcd.zero, 160) else if a.seq ≠ l.seq - 1 then (l, Rcd.zero, 0) else (l, a, 0)
def cmPick (x y : Rcd) : Rcd × Rcd × Int := if y.seq > x.seq then cmPair y x else cmPair x y
theorem may_ne {r : Rcd} (h : cmMay r = true) : r ≠ Rcd.zero := by
 rintro rfl
 cases h
theorem pick_gt {x y : Rcd} (hx : cmMay x = true) (h : y.seq < x.seq) : cmPick x y = (x, if y.seq = x.seq - 1 then y else Rcd.zero, 0) ∧ cmPick y x = (x, if y.seq = x.seq - 1 then y else Rcd.zero, 0) := by
 have hne := may_ne hx
 have hp : cmPair x y = (x, if y.seq = x.seq - 1 then y else Rcd.zero, 0) := by
  unfold cmPair
  rw [if_neg hne]
  by_cases e : y.seq = x.seq - 1
  ·rw [if_neg (fun hh => hh e), if_pos e]
  ·rw [if_pos e, if_neg e]
 unfold cmPick
 rw [if_neg (show ¬ y.seq > x.seq by omega), if_pos (show x.seq > y.seq from h)]
 exact ⟨hp, hp⟩
theorem pick_zero {x : Rcd} (hx : cmMay x = true) : cmPick x Rcd.zero = (x, Rcd.zero, 0) ∧ cmPick Rcd.zero x = (x, Rcd.zero, 0) := by
 have h := pick_gt (y := Rcd.zero) hx (by have := (cmMay_iff.1 hx).1; exact this)
 simp only [ite_self] at h
 exact h
theorem pick_none : cmPick Rcd.zero Rcd.zero = (Rcd.zero, Rcd.zero, 160) := by decide
def cmGet (s : DS) : Rcd × Rcd × Int :=
 if (s.read 0).2 ≠ 0 then (Rcd.zero, Rcd.zero, (s.read 0).2) else if (s.read 1).2 ≠ 0 then (Rcd.zero, Rcd.zero, (s.read 1).2) else cmPick (cmAt 0 (s.read 0).1) (cmAt 1 (s.read 1).1)
def cmPut (r : Rcd) (s : DS) : Int × DS :=
 if cmMay r = true then (if (s.write (r.seq % 2) (cmSec r)).1 ≠ 0 then s.write (r.seq % 2) (cmSec r) else (s.write (r.seq % 2) (cmSec r)).2.flush) else (2, s)
theorem cmPair_in {x y : Rcd} (hx : x.In) (hy : y.In) : (cmPair x y).1.In ∧ (cmPair x y).2.1.In := by
 unfold cmPair
 split
 ·exact ⟨Rcd.In.zero, Rcd.In.zero⟩
 ·split
  ·exact ⟨hx, Rcd.In.zero⟩
  ·exact ⟨hx, hy⟩
theorem cmPick_in {x y : Rcd} (hx : x.In) (hy : y.In) : (cmPick x y).1.In ∧ (cmPick x y).2.1.In := by
 unfold cmPick
 split
 ·exact cmPair_in hy hx
 ·exact cmPair_in hx hy
theorem cmGet_in (s : DS) : (cmGet s).1.In ∧ (cmGet s).2.1.In := by
 unfold cmGet
 split
 ·exact ⟨Rcd.In.zero, Rcd.In.zero⟩
 ·split
  ·exact ⟨Rcd.In.zero, Rcd.In.zero⟩
  ·exact cmPick_in (cmAt_in _ _) (cmAt_in _ _)
end Go.Proofs.YtffdjnhhmfpkgaaGreat