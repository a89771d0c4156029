/- A disk's two first sectors, at rest: what Put makes of them, what Get tells; a crash in a Put; a sector with one byte otherwise. No program is named here. -/
import Derived.Test.YtffdjnhhmfpkgaaGreatTz
import Derived.Test.YtffdjnhhmfpkgaaGreatCmM
namespace Go.Proofs.YtffdjnhhmfpkgaaGreat
set_option maxRecDepth 1000000
set_option maxHeartbeats 8000000
open Go.RowKit
set_option linter.unusedVariables false
set_option linter.unusedSimpArgs false
def ds2 (a b : List UInt8) (T : List Sec) : DS := ⟨(a, none) :: (b, none) :: T, true, 0, []⟩
def CalmT (T : List Sec) : Prop := ∀ sel n, fallL sel n T = T
theorem calm_nil : CalmT [] := fun _ _ => rfl
theorem calm_one (x : List UInt8) : CalmT [(x, none)] := fun _ _ => rfl
def dsP (p : Int) (x y : List UInt8) (T : List Sec) : DS := if p = 0 then ds2 x y T else ds2 y x T
theorem get_ds2 (a b : List UInt8) (T : List Sec) (n : Nat) (st : List UInt8) : cmGet ⟨(a, none) :: (b, none) :: T, true, n, st⟩ = cmPick (cmAt 0 a) (cmAt 1 b) := by
 have h0 : DS.read ⟨(a, none) :: (b, none) :: T, true, n, st⟩ 0 = (a, 0) := by
  simp [DS.read, DS.has, secAt, Sec.now]
  omega
 have h1 : DS.read ⟨(a, none) :: (b, none) :: T, true, n, st⟩ 1 = (b, 0) := by
  simp [DS.read, DS.has, secAt, Sec.now]
  omega
 unfold cmGet
 rw [h0, h1]
 rfl
theorem put_two {a b : List UInt8} {T : List Sec} {n : Nat} {st : List UInt8} {r : Rcd} (hm : cmMay r = true) (hh : r.hash.length = 32) (hT : CalmT T) {i : Nat} (hi : i < 2) (hr : r.seq % 2 = (i : Int)) :
  cmPut r ⟨(a, none) :: (b, none) :: T, true, n, st⟩ =
   if n = 1 then (60, ⟨(a, none) :: (b, none) :: T, false, 0, []⟩)
   else if n = 2 then (60, ⟨(if i = 0 then (if selB st 0 then cmSec r else a) else a, none) :: (if i = 0 then b else (if selB st 0 then cmSec r else b), none) :: T, false, 0, []⟩)
   else (0, ⟨(if i = 0 then cmSec r else a, none) :: (if i = 0 then b else cmSec r, none) :: T, true, n - 1 - 1, st⟩) := by
 have hl := cmSec_len hh
 have hh0 : DS.has ⟨(a, none) :: (b, none) :: T, true, n, st⟩ (i : Int) = true := by simp [DS.has]; omega
 unfold cmPut
 rw [if_pos hm, hr]
 by_cases h1 : n = 1
 ·subst h1
  have hw : DS.write ⟨(a, none) :: (b, none) :: T, true, 1, st⟩ (i : Int) (cmSec r) = (60, ⟨(a, none) :: (b, none) :: T, false, 0, []⟩) := by
   unfold DS.write
   rw [hh0]
   simp [hl, DS.fall, fallL, left1, hT _ _]
  rw [hw]
  simp
 ·have hw : DS.write ⟨(a, none) :: (b, none) :: T, true, n, st⟩ (i : Int) (cmSec r) = (0, ⟨(a, if i = 0 then some (cmSec r) else none) :: (b, if i = 0 then none else some (cmSec r)) :: T, true, n - 1, st⟩) := by
   unfold DS.write
   rw [hh0]
   rcases (show i = 0 ∨ i = 1 by omega) with rfl | rfl
   ·simp [hl, h1, DS.put, secAt]
   ·simp [hl, h1, DS.put, secAt]
  rw [hw, if_neg (by simp), if_neg h1]
  by_cases h2 : n = 2
  ·subst h2
   rcases (show i = 0 ∨ i = 1 by omega) with rfl | rfl
   ·simp [DS.flush, DS.fall, fallL, left1, hT _ _]
   ·simp [DS.flush, DS.fall, fallL, left1, hT _ _]
  ·rw [if_neg h2]
   have h3 : ¬ n - 1 = 1 := by omega
   have h4 : ¬ (n - 1 = 1) := h3
   rcases (show i = 0 ∨ i = 1 by omega) with rfl | rfl
   ·simp [DS.flush, h3, DS.settled, fallL, left1, hT _ _]
   ·simp [DS.flush, h3, DS.settled, fallL, left1, hT _ _]
theorem par_cases (x : Int) : x % 2 = 0 ∨ x % 2 = 1 := by omega
theorem put_dsP {p : Int} {x y : List UInt8} {T : List Sec} {r : Rcd} (hm : cmMay r = true) (hh : r.hash.length = 32) (hT : CalmT T) (hp : p = 0 ∨ p = 1) (hq : r.seq % 2 = 1 - p) : cmPut r (dsP p x y T) = (0, dsP (1 - p) (cmSec r) x T) := by
 rcases hp with rfl | rfl
 ·have := put_two (a := x) (b := y) (n := 0) (st := []) hm hh hT (i := 1) (by decide) hq
  simpa [dsP, ds2] using this
 ·have := put_two (a := y) (b := x) (n := 0) (st := []) hm hh hT (i := 0) (by decide) hq
  simpa [dsP, ds2] using this
theorem get_dsP (p : Int) (hp : p = 0 ∨ p = 1) (x y : List UInt8) (T : List Sec) : cmGet (dsP p x y T) = cmPick (cmAt p x) (cmAt (1 - p) y) ∨ cmGet (dsP p x y T) = cmPick (cmAt (1 - p) y) (cmAt p x) := by
 rcases hp with rfl | rfl
 ·exact .inl (get_ds2 x y T 0 [])
 ·exact .inr (get_ds2 y x T 0 [])
theorem get_last {p : Int} (hp : p = 0 ∨ p = 1) {y : List UInt8} {T : List Sec} {r z : Rcd} (hm : cmMay r = true) (hi : r.In) (hr : r.seq % 2 = p) (hz : cmAt (1 - p) y = z) (hlt : z.seq < r.seq) : cmGet (dsP p (cmSec r) y T) = (r, if z.seq = r.seq - 1 then z else Rcd.zero, 0) := by
 have h1 : cmAt p (cmSec r) = r := by rw [← hr]; exact cmAt_sec hm hi
 obtain ⟨g1, g2⟩ := pick_gt (y := z) hm hlt
 rcases get_dsP p hp (cmSec r) y T with h | h
 ·rw [h, h1, hz, g1]
 ·rw [h, h1, hz, g2]
theorem get_first {p : Int} (hp : p = 0 ∨ p = 1) {y : List UInt8} {T : List Sec} {r : Rcd} (hm : cmMay r = true) (hi : r.In) (hr : r.seq % 2 = p) (hz : cmAt (1 - p) y = Rcd.zero) : cmGet (dsP p (cmSec r) y T) = (r, Rcd.zero, 0) := by
 rw [get_last hp hm hi hr hz (by have := (cmMay_iff.1 hm).1; exact this), ite_self]
theorem get_other {p : Int} (hp : p = 0 ∨ p = 1) {x y : List UInt8} {T : List Sec} (hx : cmAt p x = Rcd.zero) : cmGet (dsP p x y T) = if cmAt (1 - p) y = Rcd.zero then (Rcd.zero, Rcd.zero, 160) else (cmAt (1 - p) y, Rcd.zero, 0) := by
 have hc := cmAt_cases (1 - p) y
 by_cases h0 : cmAt (1 - p) y = Rcd.zero
 ·rw [if_pos h0]
  rcases get_dsP p hp x y T with h | h
  ·rw [h, hx, h0]; exact pick_none
  ·rw [h, hx, h0]; exact pick_none
 ·rw [if_neg h0]
  obtain ⟨g1, g2⟩ := pick_zero (hc.resolve_left h0).1
  rcases get_dsP p hp x y T with h | h
  ·rw [h, hx, g2]
  ·rw [h, hx, g1]
def T3 : List Sec := [(sec0, none)]
def rN (fr : Int) (l : List Rcd) (j : Nat) : Rcd := ⟨fr + j, (l.getD j Rcd.zero).slot, (l.getD j Rcd.zero).len, (l.getD j Rcd.zero).trial, (l.getD j Rcd.zero).hash⟩
def sN (fr : Int) (l : List Rcd) : Nat → DS
 | 0 => dsP ((fr + 1) % 2) sec0 sec0 T3
 | k + 1 => dsP ((fr + k) % 2) (cmSec (rN fr l k)) (if k = 0 then sec0 else cmSec (rN fr l (k - 1))) T3
theorem sN_new (fr : Int) (l : List Rcd) : sN fr l 0 = DS.new 3 := by
 unfold sN dsP
 rw [ite_self]
 rfl
theorem sN_pos (fr : Int) (l : List Rcd) (k : Nat) : 0 < (sN fr l k).L.length := by
 cases k <;> (simp only [sN, dsP]; split <;> simp [ds2])
theorem sN_put {fr : Int} {l : List Rcd} {k : Nat} (hm : cmMay (rN fr l k) = true) (hh : (rN fr l k).hash.length = 32) : cmPut (rN fr l k) (sN fr l k) = (0, sN fr l (k + 1)) := by
 cases k with
 | zero =>
  have h := put_dsP (x := sec0) (y := sec0) (p := (fr + 1) % 2) hm hh (calm_one sec0) (par_cases _) (by show (fr + ((0 : Nat) : Int)) % 2 = _; omega)
  rw [show 1 - (fr + 1) % 2 = (fr + ((0 : Nat) : Int)) % 2 by omega] at h
  exact h
 | succ k =>
  have h := put_dsP (x := cmSec (rN fr l k)) (y := if k = 0 then sec0 else cmSec (rN fr l (k - 1))) (p := (fr + k) % 2) hm hh (calm_one sec0) (par_cases _) (by show (fr + ((k + 1 : Nat) : Int)) % 2 = _; omega)
  rw [show 1 - (fr + k) % 2 = (fr + ((k + 1 : Nat) : Int)) % 2 by omega] at h
  exact h
theorem sN_other {fr : Int} {l : List Rcd} {k : Nat} (hk : ∀ j, j ≤ k → cmMay (rN fr l j) = true ∧ (rN fr l j).In) : cmAt (1 - (fr + k) % 2) (if k = 0 then sec0 else cmSec (rN fr l (k - 1))) = if k = 0 then Rcd.zero else rN fr l (k - 1) := by
 cases k with
 | zero => exact cmAt_sec0 _
 | succ k =>
  obtain ⟨h1, h2⟩ := hk k (Nat.le_succ k)
  show cmAt _ (cmSec (rN fr l k)) = rN fr l k
  rw [show 1 - (fr + ((k + 1 : Nat) : Int)) % 2 = (rN fr l k).seq % 2 by show _ = (fr + (k : Int)) % 2; omega]
  exact cmAt_sec h1 h2
theorem sN_get {fr : Int} {l : List Rcd} {k : Nat} (hk : ∀ j, j ≤ k → cmMay (rN fr l j) = true ∧ (rN fr l j).In) : cmGet (sN fr l (k + 1)) = (rN fr l k, if k = 0 then Rcd.zero else rN fr l (k - 1), 0) := by
 obtain ⟨h1, h2⟩ := hk k (Nat.le_refl k)
 have h := sN_other hk
 show cmGet (dsP _ _ _ T3) = _
 cases k with
 | zero => exact get_first (p := (fr + ((0 : Nat) : Int)) % 2) (par_cases _) h1 h2 rfl h
 | succ k =>
  have hs : (rN fr l k).seq < (rN fr l (k + 1)).seq := by show fr + (k : Int) < fr + ((k + 1 : Nat) : Int); omega
  rw [get_last (p := (fr + ((k + 1 : Nat) : Int)) % 2) (par_cases _) h1 h2 rfl h hs, if_pos]
  show fr + (k : Int) = fr + ((k + 1 : Nat) : Int) - 1
  omega
theorem one_more {fr : Int} {l : List Rcd} {k n : Nat} {r : Rcd} {st : List UInt8} (hk : ∀ j, j ≤ k → cmMay (rN fr l j) = true ∧ (rN fr l j).In) (hm : cmMay r = true) (hi : r.In) (hr : r.seq = fr + k + 1) (hn : 1 ≤ n) :
  ∃ e s', cmPut r ⟨(sN fr l (k + 1)).L, true, n, st⟩ = (e, s') ∧ s'.L.length = 3 ∧
   ((e = 0 ∧ 2 < n ∧ s'.up = true ∧ cmGet s' = (r, rN fr l k, 0)) ∨
    (e = 60 ∧ n ≤ 2 ∧ s'.up = false ∧ ∃ s2, s'.start = (0, s2) ∧ (cmGet s2 = (r, rN fr l k, 0) ∨ cmGet s2 = (rN fr l k, if k = 0 then Rcd.zero else rN fr l (k - 1), 0)))) := by
 obtain ⟨h1, h2⟩ := hk k (Nat.le_refl k)
 have hg := sN_get hk
 generalize hp : (fr + k) % 2 = p at *
 have hpc : p = 0 ∨ p = 1 := by rw [← hp]; exact par_cases _
 generalize hy : (if k = 0 then sec0 else cmSec (rN fr l (k - 1))) = y at *
 have hs : sN fr l (k + 1) = dsP p (cmSec (rN fr l k)) y T3 := by show dsP _ _ _ _ = _; rw [hp, hy]
 rw [hs] at hg ⊢
 have hq : r.seq % 2 = 1 - p := by rw [hr, ← hp]; omega
 have hl : cmAt (1 - (1 - p)) (cmSec (rN fr l k)) = rN fr l k := by
  rw [show 1 - (1 - p) = (rN fr l k).seq % 2 by show _ = (fr + (k : Int)) % 2; omega]
  exact cmAt_sec h1 h2
 have hnew : cmGet (dsP (1 - p) (cmSec r) (cmSec (rN fr l k)) T3) = (r, rN fr l k, 0) := by
  rw [get_last (by omega) hm hi hq hl (by rw [hr]; show fr + (k : Int) < _; omega), if_pos (by rw [hr]; show fr + (k : Int) = _; omega)]
 rcases hpc with rfl | rfl
 ·have hw := put_two (a := cmSec (rN fr l k)) (b := y) (n := n) (st := st) hm hi.hash (calm_one sec0) (i := 1) (by decide) hq
  rw [show (1 : Int) - 0 = 1 from rfl] at hnew
  have g0 := get_ds2 (cmSec (rN fr l k)) (cmSec r) T3 (n - 1 - 1) st
  have g1 : cmGet (dsP 1 (cmSec r) (cmSec (rN fr l k)) T3) = _ := get_ds2 (cmSec (rN fr l k)) (cmSec r) T3 0 []
  rw [hnew] at g1
  rw [← g1] at g0
  by_cases n1 : n = 1
  ·rw [if_pos n1] at hw
   exact ⟨_, _, hw, rfl, .inr ⟨rfl, by omega, rfl, _, rfl, .inr hg⟩⟩
  rw [if_neg n1] at hw
  by_cases n2 : n = 2
  ·rw [if_pos n2] at hw
   refine ⟨_, _, hw, rfl, .inr ⟨rfl, by omega, rfl, _, rfl, ?_⟩⟩
   cases hb : selB st 0
   ·exact .inr hg
   ·exact .inl hnew
  ·rw [if_neg n2] at hw
   exact ⟨_, _, hw, rfl, .inl ⟨rfl, by omega, rfl, g0⟩⟩
 ·have hw := put_two (a := y) (b := cmSec (rN fr l k)) (n := n) (st := st) hm hi.hash (calm_one sec0) (i := 0) (by decide) hq
  rw [show (1 : Int) - 1 = 0 from rfl] at hnew
  have g0 := get_ds2 (cmSec r) (cmSec (rN fr l k)) T3 (n - 1 - 1) st
  have g1 : cmGet (dsP 0 (cmSec r) (cmSec (rN fr l k)) T3) = _ := get_ds2 (cmSec r) (cmSec (rN fr l k)) T3 0 []
  rw [hnew] at g1
  rw [← g1] at g0
  by_cases n1 : n = 1
  ·rw [if_pos n1] at hw
   exact ⟨_, _, hw, rfl, .inr ⟨rfl, by omega, rfl, _, rfl, .inr hg⟩⟩
  rw [if_neg n1] at hw
  by_cases n2 : n = 2
  ·rw [if_pos n2] at hw
   refine ⟨_, _, hw, rfl, .inr ⟨rfl, by omega, rfl, _, rfl, ?_⟩⟩
   cases hb : selB st 0
   ·exact .inr hg
   ·exact .inl hnew
  ·rw [if_neg n2] at hw
   exact ⟨_, _, hw, rfl, .inl ⟨rfl, by omega, rfl, g0⟩⟩
theorem get_wr {p : Int} (hp : p = 0 ∨ p = 1) {x y t : List UInt8} {T : List Sec} (ht : t.length = 64) : ∃ s', (dsP p x y T).write p t = (0, s') ∧ cmGet s' = cmGet (dsP p t y T) ∧ ((dsP p x y T).read p) = (x, 0) := by
 rcases hp with rfl | rfl
 ·have hg : cmGet (dsP 0 t y T) = cmPick (cmAt 0 t) (cmAt 1 y) := get_ds2 t y T 0 []
  refine ⟨⟨(x, some t) :: (y, none) :: T, true, 0 - 1, []⟩, ?_, ?_, ?_⟩
  ·simp [dsP, ds2, DS.write, DS.has, ht, DS.put, secAt]; omega
  ·rw [hg]
   have h0 : DS.read ⟨(x, some t) :: (y, none) :: T, true, 0 - 1, []⟩ 0 = (t, 0) := by
    simp [DS.read, DS.has, secAt, Sec.now]; omega
   have h1 : DS.read ⟨(x, some t) :: (y, none) :: T, true, 0 - 1, []⟩ 1 = (y, 0) := by
    simp [DS.read, DS.has, secAt, Sec.now]; omega
   unfold cmGet
   rw [h0, h1]
   rfl
  ·simp [dsP, ds2, DS.read, DS.has, secAt, Sec.now]; omega
 ·have hg : cmGet (dsP 1 t y T) = cmPick (cmAt 0 y) (cmAt 1 t) := get_ds2 y t T 0 []
  refine ⟨⟨(y, none) :: (x, some t) :: T, true, 0 - 1, []⟩, ?_, ?_, ?_⟩
  ·simp [dsP, ds2, DS.write, DS.has, ht, DS.put, secAt]; omega
  ·rw [hg]
   have h0 : DS.read ⟨(y, none) :: (x, some t) :: T, true, 0 - 1, []⟩ 0 = (y, 0) := by
    simp [DS.read, DS.has, secAt, Sec.now]; omega
   have h1 : DS.read ⟨(y, none) :: (x, some t) :: T, true, 0 - 1, []⟩ 1 = (t, 0) := by
    simp [DS.read, DS.has, secAt, Sec.now]; omega
   unfold cmGet
   rw [h0, h1]
   rfl
  ·simp [dsP, ds2, DS.read, DS.has, secAt, Sec.now]; omega
end Go.Proofs.YtffdjnhhmfpkgaaGreat