/- Several texts in one (a claim has 60 files at most): DiskR, DiskS, DiskT, DiskU, DiskV, DiskW, DiskRows, DiskPw. -/
import Derived.Test.YtffdjnhhmfpkgaaGreatTz
import Derived.Test.YtffdjnhhmfpkgaaGreatR7
import Derived.Deep.RegionHeld
import Derived.Deep.AppendLies
import Derived.Test.YtffdjnhhmfpkgaaGreatKitO
import Derived.Deep.MidRow
namespace Go.Proofs.YtffdjnhhmfpkgaaGreat
set_option maxRecDepth 1000000
set_option maxHeartbeats 8000000
set_option linter.unusedVariables false
set_option linter.unusedSimpArgs false
section
open Go.RowKit
def DrSl (w : World) (r lb : Nat) (F : Nat → Prop) (v : Value) (bs : List UInt8) : Prop :=
 ∃ b o c, v = .slice (some ⟨b, o, none⟩) 64 c ∧ Rd w w.heap.size (some ⟨b, o, none⟩) 64 bs ∧ F b ∧ b ≠ r ∧ b ≠ lb
def DrSec (w : World) (r lb : Nat) (F : Nat → Prop) (p : Value × Value) (s : Sec) : Prop :=
 DrSl w r lb F p.1 s.1 ∧ (s.2 = none → p.2 = .slice none 0 0) ∧ ∀ c, s.2 = some c → DrSl w r lb F p.2 c
def vAt (vs : List (Value × Value)) (i : Nat) : Value × Value := vs.getD i (undef, undef)
structure DrP (w : World) (r lb cap : Nat) (vs : List (Value × Value)) (A : Option Addr) (m c : Nat) (F : Nat → Prop) (s : DS) : Prop where
 obj : w.heap[r]? = some (.cells #[.slice (some ⟨lb, 0, none⟩) s.L.length cap, .bool (!s.up), .int .i64 (s.left : Int), .slice A m c] 42 (0, 0))
 len : vs.length = s.L.length
 row : ∃ cur, w.heap[lb]? = some (.cells cur 54 (0, 0)) ∧ ∀ i, i < s.L.length → cur[i * 2]? = some (vAt vs i).1 ∧ cur[i * 2 + 1]? = some (vAt vs i).2
 sec : ∀ i, i < s.L.length → DrSec w r lb F (vAt vs i) (secAt s.L i)
 stay : Rd w w.heap.size A m s.stay ∧ m ≤ 140737488355328 ∧ m ≤ c ∧ c ≤ 9223372036854775807
 soff : ∀ b o, 0 < m → A = some ⟨b, o, none⟩ → F b ∧ b ≠ r ∧ b ≠ lb
 fr : F r
 fl : F lb
 rl : r ≠ lb
 lt : ∀ k, F k → k < w.heap.size
 cap : s.L.length ≤ cap ∧ cap ≤ 9223372036854775807
 ok : s.ok
def DrAt (w : World) (r : Nat) (F : Nat → Prop) (s : DS) : Prop := ∃ lb cap vs A m c, DrP w r lb cap vs A m c F s
theorem DrSl.block {w w' : World} {r lb : Nat} {F : Nat → Prop} {v : Value} {bs : List UInt8} (h : DrSl w r lb F v bs) (hs : w.heap.size ≤ w'.heap.size) (hb : ∀ k, F k → k ≠ r → k ≠ lb → w'.heap[k]? = w.heap[k]?) : DrSl w' r lb F v bs := by
 obtain ⟨b, o, c, e, hr, hf, n1, n2⟩ := h
 refine ⟨b, o, c, e, ⟨hr.1, fun hn => ?_⟩, hf, n1, n2⟩
 obtain ⟨b', o', e', hlt, hc⟩ := hr.2 hn
 injection e' with e'; injection e' with e1 e2
 subst e1; subst e2
 exact ⟨b, o, rfl, by omega, fun j hj => (World.cell?_of_block (hb b hf n1 n2)).trans (hc j hj)⟩
theorem DrSec.block {w w' : World} {r lb : Nat} {F : Nat → Prop} {p : Value × Value} {s : Sec} (h : DrSec w r lb F p s) (hs : w.heap.size ≤ w'.heap.size) (hb : ∀ k, F k → k ≠ r → k ≠ lb → w'.heap[k]? = w.heap[k]?) : DrSec w' r lb F p s :=
 ⟨h.1.block hs hb, h.2.1, fun c hc => (h.2.2 c hc).block hs hb⟩
theorem DrSl.more {w : World} {r lb : Nat} {F G : Nat → Prop} {v : Value} {bs : List UInt8} (h : DrSl w r lb F v bs) (hg : ∀ k, F k → G k) : DrSl w r lb G v bs := by
 obtain ⟨b, o, c, e, hr, hf, n1, n2⟩ := h
 exact ⟨b, o, c, e, hr, hg _ hf, n1, n2⟩
theorem DrSec.more {w : World} {r lb : Nat} {F G : Nat → Prop} {p : Value × Value} {s : Sec} (h : DrSec w r lb F p s) (hg : ∀ k, F k → G k) : DrSec w r lb G p s :=
 ⟨h.1.more hg, h.2.1, fun c hc => (h.2.2 c hc).more hg⟩
theorem rd_block {w w' : World} {A : Option Addr} {m : Nat} {bs : List UInt8} (h : Rd w w.heap.size A m bs) (hs : w.heap.size ≤ w'.heap.size) (hb : ∀ b o, 0 < m → A = some ⟨b, o, none⟩ → w'.heap[b]? = w.heap[b]?) : Rd w' w'.heap.size A m bs :=
 ⟨h.1, fun hn => by
  obtain ⟨b, o, e, hlt, hc⟩ := h.2 hn
  exact ⟨b, o, e, by omega, fun j hj => (World.cell?_of_block (hb b o hn e)).trans (hc j hj)⟩⟩
theorem DrP.kept {R : Nat → Prop} {w w' : World} {r lb cap : Nat} {vs : List (Value × Value)} {A : Option Addr} {m c : Nat} {F : Nat → Prop} {s : DS} (h : DrP w r lb cap vs A m c F s) (hk : Keep R w w') (hn : ∀ k, F k → ¬ R k) : DrP w' r lb cap vs A m c F s := by
 have hb : ∀ k, F k → w'.heap[k]? = w.heap[k]? := fun k hf => hk.block k (h.lt k hf) (hn k hf)
 refine ⟨(hb r h.fr).trans h.obj, h.len, ?_, fun i hi => (h.sec i hi).block hk.size (fun k hf _ _ => hb k hf), ⟨rd_block h.stay.1 hk.size (fun b o hm e => hb b (h.soff b o hm e).1), h.stay.2⟩, h.soff, h.fr, h.fl, h.rl, fun k hf => Nat.lt_of_lt_of_le (h.lt k hf) hk.size, h.cap, h.ok⟩
 obtain ⟨cur, h1, h2⟩ := h.row
 exact ⟨cur, (hb lb h.fl).trans h1, h2⟩
theorem DrAt.kept {R : Nat → Prop} {w w' : World} {r : Nat} {F : Nat → Prop} {s : DS} (h : DrAt w r F s) (hk : Keep R w w') (hn : ∀ k, F k → ¬ R k) : DrAt w' r F s := by
 obtain ⟨lb, cap, vs, A, m, c, h⟩ := h
 exact ⟨lb, cap, vs, A, m, c, h.kept hk hn⟩
theorem DrP.to {w w' : World} {r lb cap : Nat} {vs : List (Value × Value)} {A : Option Addr} {m c : Nat} {F : Nat → Prop} {s : DS} (h : DrP w r lb cap vs A m c F s) (hb : Below w.heap.size w w') : DrP w' r lb cap vs A m c F s := h.kept (R := fun _ => False) (Keep.of_below hb) (fun _ _ h => h)
theorem DrAt.to {w w' : World} {r : Nat} {F : Nat → Prop} {s : DS} (h : DrAt w r F s) (hb : Below w.heap.size w w') : DrAt w' r F s := h.kept (R := fun _ => False) (Keep.of_below hb) (fun _ _ h => h)
theorem DrAt.lt {w : World} {r : Nat} {F : Nat → Prop} {s : DS} (h : DrAt w r F s) : ∀ k, F k → k < w.heap.size := by
 obtain ⟨lb, cap, vs, A, m, c, h⟩ := h
 exact h.lt
theorem DrAt.fr {w : World} {r : Nat} {F : Nat → Prop} {s : DS} (h : DrAt w r F s) : F r := by
 obtain ⟨lb, cap, vs, A, m, c, h⟩ := h
 exact h.fr
theorem DrAt.ok {w : World} {r : Nat} {F : Nat → Prop} {s : DS} (h : DrAt w r F s) : s.ok := by
 obtain ⟨lb, cap, vs, A, m, c, h⟩ := h
 exact h.ok
theorem drCell {w : World} {r : Nat} {a b c d : Value} {T : TypeId} (h : w.heap[r]? = some (.cells #[a, b, c, d] T (0, 0))) :
  w.cell? ⟨r, 0, none⟩ = some a ∧ w.cell? ⟨r, 1, none⟩ = some b ∧ w.cell? ⟨r, 2, none⟩ = some c ∧ w.cell? ⟨r, 3, none⟩ = some d ∧
  w.frozen? ⟨r, 0, none⟩ = false ∧ w.frozen? ⟨r, 1, none⟩ = false ∧ w.frozen? ⟨r, 2, none⟩ = false ∧ w.frozen? ⟨r, 3, none⟩ = false := by
 refine ⟨?_, ?_, ?_, ?_, ?_, ?_, ?_, ?_⟩ <;> simp [World.cell?, World.frozen?, h]
theorem DrP.cell {w : World} {r lb cap : Nat} {vs : List (Value × Value)} {A : Option Addr} {m c : Nat} {F : Nat → Prop} {s : DS} (h : DrP w r lb cap vs A m c F s) {i : Nat} (hi : i < s.L.length) :
  w.cell? ⟨lb, i * 2, none⟩ = some (vAt vs i).1 ∧ w.cell? ⟨lb, i * 2 + 1, none⟩ = some (vAt vs i).2 ∧ w.frozen? ⟨lb, i * 2, none⟩ = false ∧ w.frozen? ⟨lb, i * 2 + 1, none⟩ = false := by
 obtain ⟨cur, h1, h2⟩ := h.row
 obtain ⟨h3, h4⟩ := h2 i hi
 exact ⟨by rw [cell_of_row _ _ _ _ _ _ h1]; exact h3, by rw [cell_of_row _ _ _ _ _ _ h1]; exact h4, by simp [World.frozen?, h1], by simp [World.frozen?, h1]⟩
theorem qRead (r : Nat) (F : Nat → Prop) (s : DS) (i : Int) (w : World) (h : DrAt w r F s) : Calls Tryz.prog 19 #[.pointer (some ⟨r, 0, none⟩), .int .i64 i] w fun e w' =>
  ∃ A n c, e = .returned (.tuple #[.slice A n c, .int .i64 (s.read i).2]) ∧ w'.ownsRow w.heap.size 5 1 (.slice A n c) n ((s.read i).1.map bval) ∧ Below w.heap.size w w' := by
 obtain ⟨lb, cap, vs, A, m, c, h⟩ := h
 obtain ⟨c0, c1, c2, c3, _, _, _, _⟩ := drCell h.obj
 have H := qH h
 have HE := qH (rfl : s.read i = s.read i)
 clear h c2 c3
 go_enter Tryz.func19, Tryz.ntmps19
 cases hu : s.up
 ·have HU := qH hu
  rw [hu] at c1
  clear hu
  go_wp2_with fail
  go_ret2
  rw [DS.read, HU.out, if_pos rfl]
  exact ⟨none, 0, 0, rfl, ⟨rfl, .inl ⟨rfl, rfl⟩⟩, Below.refl _ _⟩
 have HU := qH hu
 rw [hu] at c1
 clear hu
 by_cases h0 : i < 0
 ·have HH : Hid (s.has i = false) := by show _ = _; simp only [DS.has, decide_eq_false_iff_not]; omega
  go_wp2_with fail
  go_ret2
  rw [DS.read, HU.out, if_neg (by decide), HH.out, if_pos rfl]
  exact ⟨none, 0, 0, rfl, ⟨rfl, .inl ⟨rfl, rfl⟩⟩, Below.refl _ _⟩
 by_cases h1 : i ≥ (s.L.length : Int)
 ·have HH : Hid (s.has i = false) := by show _ = _; simp only [DS.has, decide_eq_false_iff_not]; omega
  go_wp2_with fail
  go_ret2
  rw [DS.read, HU.out, if_neg (by decide), HH.out, if_pos rfl]
  exact ⟨none, 0, 0, rfl, ⟨rfl, .inl ⟨rfl, rfl⟩⟩, Below.refl _ _⟩
 have HH : Hid (s.has i = true) := by show _ = _; simp only [DS.has, decide_eq_true_eq]; omega
 obtain ⟨k, rfl⟩ : ∃ k : Nat, i = (k : Int) := ⟨i.toNat, by omega⟩
 have hk : k < s.L.length := by omega
 have hk1 : (k : Int) < (s.L.length : Int) := by omega
 obtain ⟨d0, d1, _, _⟩ := H.out.cell hk
 obtain ⟨e0, e1, e2⟩ := H.out.sec k hk
 have q := u8_some
 have HER : Hid (s.read (k : Int) = (Sec.now (secAt s.L k), 0)) := by
  show _ = _
  rw [DS.read, HU.out, if_neg (by decide), HH.out, if_neg (by decide), Int.toNat_natCast]
 cases hc : (secAt s.L k).2 with
 | none =>
  have HC := qH hc
  rw [e1 hc] at d1
  obtain ⟨b, o, cc, ev, hr, _⟩ := e0
  rw [ev] at d0
  have R := qH hr
  clear e1 e2 hc hr ev HE
  generalize hn : s.L.length = n at *
  have HN := qH hn
  clear hn
  go_wp2_with fail
  refine (refCopy (some ⟨b, o, none⟩) 64 cc _ w R.out (by decide)).mono ?_
  rintro e w1 ⟨A1, n1, c1', rfl, hown, hb⟩
  have O1 := qH hown
  have B1 := qH hb
  clear hown hb
  go_wp2_with fail
  go_ret2
  rw [HER.out]
  have e : Sec.now (secAt s.L k) = (secAt s.L k).1 := by unfold Sec.now; rw [HC.out]; rfl
  rw [e]
  exact ⟨_, _, _, rfl, O1.out, B1.out⟩
 | some bs =>
  have HC := qH hc
  obtain ⟨b, o, cc, ev, hr, _⟩ := e2 bs hc
  rw [ev] at d1
  have R := qH hr
  clear e0 e1 e2 hc hr ev HE d0
  generalize hn : s.L.length = n at *
  have HN := qH hn
  clear hn
  go_wp2_with fail
  refine (refCopy (some ⟨b, o, none⟩) 64 cc _ w R.out (by decide)).mono ?_
  rintro e w1 ⟨A1, n1, c1', rfl, hown, hb⟩
  have O1 := qH hown
  have B1 := qH hb
  clear hown hb
  go_wp2_with fail
  go_ret2
  rw [HER.out]
  have e : Sec.now (secAt s.L k) = bs := by unfold Sec.now; rw [HC.out]; rfl
  rw [e]
  exact ⟨_, _, _, rfl, O1.out, B1.out⟩
end
section
open Go.RowKit
theorem set_self {L : List Sec} {i : Nat} (hi : i < L.length) {s : Sec} (h : secAt L i = s) : L.set i s = L := by
 rw [← h, secAt_lt hi]
 exact List.set_getElem_self hi
theorem DS.ok.setSec {s : DS} (h : s.ok) {i : Nat} {f : List UInt8} {c : Option (List UInt8)} (hf : f.length = 64) (hc : ∀ b, c = some b → b.length = 64) {left : Nat} (hl : left ≤ 9223372036854775807) (up : Bool) (stay : List UInt8) : DS.ok ⟨s.L.set i (f, c), up, left, stay⟩ :=
 ⟨by simp only [List.length_set]; exact h.len, fun x hx => by
  rcases List.mem_or_eq_of_mem_set hx with hx | rfl
  ·exact h.fl x hx
  ·exact hf, fun x hx b hb => by
  rcases List.mem_or_eq_of_mem_set hx with hx | rfl
  ·exact h.ca x hx b hb
  ·exact hc b hb, hl⟩
theorem vAt_set {vs : List (Value × Value)} {i j : Nat} (h : i < vs.length) (p : Value × Value) : vAt (vs.set i p) j = if i = j then p else vAt vs j := by
 unfold vAt
 simp only [List.getD, List.getElem?_set]
 by_cases e : i = j
 ·subst e; simp [h]
 ·simp [e]
theorem DrP.setP {w w' : World} {r lb cap : Nat} {vs : List (Value × Value)} {A : Option Addr} {m c : Nat} {F : Nat → Prop} {s : DS} (h : DrP w r lb cap vs A m c F s) {i : Nat} (hi : i < s.L.length) (hk : Keep (· = lb) w w') {p : Value × Value} {sec : Sec}
  (hrow : ∀ cur, w.heap[lb]? = some (.cells cur 54 (0, 0)) → ∃ cur', w'.heap[lb]? = some (.cells cur' 54 (0, 0)) ∧ cur'[i * 2]? = some p.1 ∧ cur'[i * 2 + 1]? = some p.2 ∧ ∀ j, j ≠ i * 2 → j ≠ i * 2 + 1 → cur'[j]? = cur[j]?)
  (hp : DrSec w r lb F p sec) (hl : sec.1.length = 64) (hc : ∀ b, sec.2 = some b → b.length = 64) : DrP w' r lb cap (vs.set i p) A m c F ⟨s.L.set i sec, s.up, s.left, s.stay⟩ := by
 have hb : ∀ k, F k → k ≠ lb → w'.heap[k]? = w.heap[k]? := fun k hf hn => hk.block k (h.lt k hf) hn
 have hiv : i < vs.length := by rw [h.len]; exact hi
 refine ⟨?_, ?_, ?_, fun j hj => ?_, ⟨rd_block h.stay.1 hk.size (fun b o hm e => hb b (h.soff b o hm e).1 (h.soff b o hm e).2.2), h.stay.2⟩, h.soff, h.fr, h.fl, h.rl, fun k hf => Nat.lt_of_lt_of_le (h.lt k hf) hk.size, ?_, h.ok.setSec hl hc h.ok.lt _ _⟩
 ·simp only [List.length_set]
  exact (hb r h.fr h.rl).trans h.obj
 ·simp only [List.length_set]
  exact h.len
 ·obtain ⟨cur, h1, h2⟩ := h.row
  obtain ⟨cur', g1, g2, g3, g4⟩ := hrow cur h1
  refine ⟨cur', g1, fun j hj => ?_⟩
  simp only [List.length_set] at hj
  rw [vAt_set hiv]
  by_cases e : i = j
  ·subst e
   rw [if_pos rfl]
   exact ⟨g2, g3⟩
  ·rw [if_neg e, g4 _ (by omega) (by omega), g4 _ (by omega) (by omega)]
   exact h2 j hj
 ·simp only [List.length_set] at hj
  simp only
  rw [vAt_set hiv, secAt_set hi]
  by_cases e : i = j
  ·subst e
   rw [if_pos rfl, if_pos rfl]
   exact hp.block hk.size (fun k hf _ hn => hb k hf hn)
  ·rw [if_neg e, if_neg e]
   exact (h.sec j hj).block hk.size (fun k hf _ hn => hb k hf hn)
 ·simp only [List.length_set]
  exact h.cap
theorem row_set {w : World} {lb : Nat} {cur : Array Value} {T : TypeId} (h : w.heap[lb]? = some (.cells cur T (0, 0))) (o : Nat) (v : Value) : (w.setCell ⟨lb, o, none⟩ v).heap[lb]? = some (.cells (cur.setIfInBounds o v) T (0, 0)) := by
 rw [heap_setCell_same _ _ _ _ _ _ h]
theorem DrP.setF {w : World} {r lb cap : Nat} {vs : List (Value × Value)} {A : Option Addr} {m c : Nat} {F : Nat → Prop} {s : DS} (h : DrP w r lb cap vs A m c F s) {i : Nat} (hi : i < s.L.length) {v : Value} {bs : List UInt8} (hv : DrSl w r lb F v bs) (hl : bs.length = 64) :
  DrP (w.setCell ⟨lb, i * 2, none⟩ v) r lb cap (vs.set i (v, (vAt vs i).2)) A m c F ⟨s.L.set i (bs, (secAt s.L i).2), s.up, s.left, s.stay⟩ := by
 refine h.setP hi ((Keep.refl (· = lb) w).setCell ⟨lb, i * 2, none⟩ v rfl) (fun cur hcur => ?_) ⟨hv, (h.sec i hi).2⟩ hl (fun b hb => h.ok.secC hi hb)
 obtain ⟨cur0, h1, h2⟩ := h.row
 obtain rfl : cur = cur0 := by rw [hcur] at h1; injection h1 with h1; injection h1
 obtain ⟨h3, h4⟩ := h2 i hi
 refine ⟨_, row_set hcur _ _, ?_, ?_, fun j hj _ => ?_⟩
 ·have : i * 2 < cur.size := (Array.getElem?_eq_some_iff.1 h3).1
  simp [this]
 ·rw [Array.getElem?_setIfInBounds_ne (by omega)]; exact h4
 ·rw [Array.getElem?_setIfInBounds_ne (by omega)]
theorem DrP.setC {w : World} {r lb cap : Nat} {vs : List (Value × Value)} {A : Option Addr} {m c : Nat} {F : Nat → Prop} {s : DS} (h : DrP w r lb cap vs A m c F s) {i : Nat} (hi : i < s.L.length) {v : Value} {x : Option (List UInt8)} (hv : (x = none → v = .slice none 0 0) ∧ ∀ b, x = some b → DrSl w r lb F v b ∧ b.length = 64) :
  DrP (w.setCell ⟨lb, i * 2 + 1, none⟩ v) r lb cap (vs.set i ((vAt vs i).1, v)) A m c F ⟨s.L.set i ((secAt s.L i).1, x), s.up, s.left, s.stay⟩ := by
 refine h.setP hi ((Keep.refl (· = lb) w).setCell ⟨lb, i * 2 + 1, none⟩ v rfl) (fun cur hcur => ?_) ⟨(h.sec i hi).1, hv.1, fun b hb => (hv.2 b hb).1⟩ (h.ok.secF hi) (fun b hb => (hv.2 b hb).2)
 obtain ⟨cur0, h1, h2⟩ := h.row
 obtain rfl : cur = cur0 := by rw [hcur] at h1; injection h1 with h1; injection h1
 obtain ⟨h3, h4⟩ := h2 i hi
 refine ⟨_, row_set hcur _ _, ?_, ?_, fun j _ hj => ?_⟩
 ·rw [Array.getElem?_setIfInBounds_ne (by omega)]; exact h3
 ·have : i * 2 + 1 < cur.size := (Array.getElem?_eq_some_iff.1 h4).1
  simp [this]
 ·rw [Array.getElem?_setIfInBounds_ne (by omega)]
theorem DrP.own {w w' : World} {r lb cap : Nat} {vs : List (Value × Value)} {A A' : Option Addr} {m c m' c' : Nat} {F : Nat → Prop} {s : DS} {up : Bool} {left : Nat} {stay : List UInt8} (h : DrP w r lb cap vs A m c F s) (hk : Keep (· = r) w w')
  (ho : w'.heap[r]? = some (.cells #[.slice (some ⟨lb, 0, none⟩) s.L.length cap, .bool (!up), .int .i64 (left : Int), .slice A' m' c'] 42 (0, 0)))
  (hs : Rd w w.heap.size A' m' stay ∧ m' ≤ 140737488355328 ∧ m' ≤ c' ∧ c' ≤ 9223372036854775807) (hso : ∀ b o, 0 < m' → A' = some ⟨b, o, none⟩ → F b ∧ b ≠ r ∧ b ≠ lb) (hl : left ≤ 9223372036854775807) :
  DrP w' r lb cap vs A' m' c' F ⟨s.L, up, left, stay⟩ := by
 have hb : ∀ k, F k → k ≠ r → w'.heap[k]? = w.heap[k]? := fun k hf hn => hk.block k (h.lt k hf) hn
 refine ⟨ho, h.len, ?_, fun j hj => (h.sec j hj).block hk.size (fun k hf hn _ => hb k hf hn), ⟨rd_block hs.1 hk.size (fun b o hm e => hb b (hso b o hm e).1 (hso b o hm e).2.1), hs.2⟩, hso, h.fr, h.fl, h.rl, fun k hf => Nat.lt_of_lt_of_le (h.lt k hf) hk.size, h.cap, ⟨h.ok.len, h.ok.fl, h.ok.ca, hl⟩⟩
 obtain ⟨cur, h1, h2⟩ := h.row
 exact ⟨cur, (hb lb h.fl (fun e => h.rl e.symm)).trans h1, h2⟩
theorem bit_int (x k : Nat) (hx : x < 256) : ((wrap64 (x : Int) / 2 ^ k).tmod 2 == 1) = decide (x / 2 ^ k % 2 = 1) := by
 have e0 : wrap64 (x : Int) = (x : Int) := IntWalk.wrap64_in _ ⟨by omega, by omega⟩
 have e : (x : Int) / 2 ^ k = ((x / 2 ^ k : Nat) : Int) := by rw [Int.natCast_ediv]; simp
 rw [e0, e, Int.tmod_eq_emod_of_nonneg (Int.natCast_nonneg _)]
 by_cases h : x / 2 ^ k % 2 = 1
 ·rw [decide_eq_true h]
  have : ((x / 2 ^ k : Nat) : Int) % 2 = 1 := by omega
  rw [this]; rfl
 ·rw [decide_eq_false h]
  have : ((x / 2 ^ k : Nat) : Int) % 2 = 0 := by omega
  rw [this]; rfl
theorem drSet1 {w : World} {r : Nat} {a b c d : Value} {T : TypeId} (h : w.heap[r]? = some (.cells #[a, b, c, d] T (0, 0))) (v : Value) : (w.setCell ⟨r, 1, none⟩ v).heap[r]? = some (.cells #[a, v, c, d] T (0, 0)) := by
 rw [heap_setCell_same _ _ _ _ _ _ h]; rfl
theorem drSet2 {w : World} {r : Nat} {a b c d : Value} {T : TypeId} (h : w.heap[r]? = some (.cells #[a, b, c, d] T (0, 0))) (v : Value) : (w.setCell ⟨r, 2, none⟩ v).heap[r]? = some (.cells #[a, b, v, d] T (0, 0)) := by
 rw [heap_setCell_same _ _ _ _ _ _ h]; rfl
theorem drSet3 {w : World} {r : Nat} {a b c d : Value} {T : TypeId} (h : w.heap[r]? = some (.cells #[a, b, c, d] T (0, 0))) (v : Value) : (w.setCell ⟨r, 3, none⟩ v).heap[r]? = some (.cells #[a, b, c, v] T (0, 0)) := by
 rw [heap_setCell_same _ _ _ _ _ _ h]; rfl
def FallRel (w : World) (r lb cap : Nat) (A : Option Addr) (m c : Nat) (F : Nat → Prop) (s : DS) (sel : Nat → Bool) (t i : Value) (wr : World) : Prop :=
 ∃ k vs, k ≤ s.L.length ∧ i = .int .i64 (k : Int) ∧ t = .int .i64 (rank s.L k : Int) ∧ DrP wr r lb cap vs A m c F ⟨fallTo sel s.L k, s.up, s.left, s.stay⟩ ∧ Keep (· = lb) w wr
theorem fallTo_same (sel : Nat → Bool) {L : List Sec} {i : Nat} (h : i < L.length) (hn : (secAt L i).2 = none) : fallTo sel L (i + 1) = fallTo sel L i := by
 rw [fallTo_succ sel h]
 refine set_self (by rw [fallTo_length]; exact h) ?_
 rw [fallTo_at sel h]
 unfold left1
 rw [hn]
 exact Prod.ext rfl hn
theorem qFall (r lb cap : Nat) (vs : List (Value × Value)) (A : Option Addr) (m c : Nat) (F : Nat → Prop) (s : DS) (w : World) (h : DrP w r lb cap vs A m c F s) (A' : Option Addr) (m' c' : Nat) (st : List UInt8) (hr : Rd w w.heap.size A' m' st) (ho : ∀ b o, 0 < m' → A' = some ⟨b, o, none⟩ → b ≠ lb) :
  Calls Tryz.prog 56 #[.pointer (some ⟨r, 0, none⟩), .slice A' m' c'] w fun e w' => e = .returned (.tuple #[]) ∧ DrAt w' r F (s.fall (selB st)) ∧ Keep (fun k => k = r ∨ k = lb) w w' := by
 have H := qH h
 have R := qH hr
 have HO := qH ho
 obtain ⟨sel, hsel⟩ : ∃ sel, selB st = sel := ⟨_, rfl⟩
 have HSEL := qH hsel
 rw [hsel]
 clear h hr ho hsel
 go_enter Tryz.func56, Tryz.ntmps56
 go_wp2_with fail
 go_loopw [4, 5] (fun t i wr => FallRel w r lb cap A m c F s sel t i wr) (fun _ i _ => s.L.length - (intOf i).toNat)
 case atStart =>
  refine ⟨0, vs, Nat.zero_le _, rfl, ?_, ?_, Keep.refl _ _⟩
  ·have : rank s.L 0 = 0 := by unfold rank dirtyL; simp [dirtyFrom]
   rw [this]; rfl
  ·rw [fallTo_zero]; exact H.out
 case round =>
  obtain ⟨k, vs', hk, rfl, rfl, hp, hkeep⟩ := hrel
  have HP := qH hp
  have K1 := qH hkeep
  have HK := qH hk
  obtain ⟨c0, c1, c2, c3, _, _, _, _⟩ := drCell hp.obj
  simp only [fallTo_length] at c0
  have HN := qH hp.ok.len
  by_cases hlt : k < s.L.length
  ·have HLT : Hid (k < s.L.length) := hlt
   obtain ⟨d0, d1, z0, z1⟩ := hp.cell (i := k) (by simp only [fallTo_length]; exact hlt)
   obtain ⟨e0, e1, e2⟩ := hp.sec k (by simp only [fallTo_length]; exact hlt)
   simp only [fallTo_at sel hlt] at e0 e1 e2
   have q := u8_nil
   have hkI : (k : Int) < 1025 := by have := HN.out; simp only [fallTo_length] at this; omega
   have hkn : (k : Int) < (s.L.length : Int) := by omega
   have HRK := qH (rank_succ hlt)
   have hrkI : (rank s.L k : Int) < 1025 := by have := rank_le s.L k; have := HN.out; simp only [fallTo_length] at this; omega
   cases hc : (secAt s.L k).2 with
   | none =>
    have HC := qH hc
    rw [e1 hc] at d1
    clear e0 e1 e2 hp hkeep hk c1 c2 c3 d0 z0 z1
    go_wp2_with fail
    go_roundw
    case rel =>
     refine ⟨k + 1, vs', HLT.out, by go_num, ?_, ?_, K1.out⟩
     ·rw [HRK.out, HC.out]; rfl
     ·rw [fallTo_same sel HLT.out HC.out]; exact HP.out
    case measure => have := HLT.out; simp [intOf]; omega
   | some bs =>
    have HC := qH hc
    have HE2 := qH (e2 bs hc)
    have HSL : Hid (rank s.L k < 1024) := by have h1 := rank_lt hlt; have := HN.out; simp only [fallTo_length] at this; show _ < _; omega
    have R1 : Hid (Rd wr wr.heap.size A' m' st) := R.out.kept K1.out (fun hn b o e hb => HO.out b o hn e hb)
    obtain ⟨b0, o0, cc, ev, _, _, _, _⟩ := e2 bs hc
    rw [ev] at d1
    clear e0 e1 e2 hp hkeep hk c1 c2 c3
    generalize hrn : rank s.L k = n at *
    have HRN := qH hrn
    clear hrn
    have HV0 : Hid ((vAt vs' k).2 = .slice (some ⟨b0, o0, none⟩) 64 cc) := ev
    have HSL0 : Hid (DrSl wr r lb F (.slice (some ⟨b0, o0, none⟩) 64 cc) bs) := by rw [← ev]; exact HE2.out
    by_cases hin : n / 8 < m'
    ·obtain ⟨b, o, rfl, hbl, hcl⟩ := R1.out.2 (by omega)
     have hcell := hcl (n / 8) hin
     have hinI : (n : Int) / 8 < (m' : Int) := by omega
     have hbit : ((wrap64 (nth st (n / 8) : Int) / 2 ^ (n % 8)).tmod 2 == 1) = sel n := by rw [bit_int _ _ (nth_lt _ _), ← HSEL.out]; rfl
     clear hcl
     cases hs : sel n with
     | true =>
      have HS := qH hs
      rw [hs] at hbit
      clear hs ev
      go_wp2_with fail
      replace HP : Hid (DrP wr.drew r lb cap vs' A m c F ⟨fallTo sel s.L k, s.up, s.left, s.stay⟩) := HP.out.kept (R := fun _ => False) (Keep.refl _ _).drew (fun _ _ h => h)
      replace K1 := qH K1.out.drew
      replace HSL0 : Hid (DrSl wr.drew r lb F (.slice (some ⟨b0, o0, none⟩) 64 cc) bs) := HSL0.out.block (Nat.le_refl _) (fun _ _ _ _ => rfl)
      clear c0 d0 d1 z0 z1 HE2 R1
      generalize hwd : wr.drew = wd at *
      have HWD := qH hwd
      clear hwd
      obtain ⟨c0, _, _, _, _, _, _, _⟩ := drCell HP.out.obj
      simp only [fallTo_length] at c0
      obtain ⟨d0, d1, z0, z1⟩ := HP.out.cell (i := k) (by simp only [fallTo_length]; exact HLT.out)
      rw [HV0.out] at d1
      have C0 := qH c0
      have D1 := qH d1
      have HRL : Hid (r ≠ lb) := HP.out.rl
      refine wp_region_held_drew (S := (fun w' => w'.cell? ⟨r, 0, none⟩ = some (.slice (some ⟨lb, 0, none⟩) s.L.length cap) ∧ w'.cell? ⟨lb, k * 2 + 1, none⟩ = some (.slice (some ⟨b0, o0, none⟩) 64 cc))) (by kernel_rfl) ((by rw [HWD.out]; exact ⟨C0.out, D1.out⟩)) (fun hHeld => ?_)
      rw [HWD.out] at hHeld ⊢
      refine tk 0 ?_
      simp only [pR]
      refine tk 1 ?_
      simp only [pR]
      refine tk 2 ?_
      simp only [pR]
      refine tw 3 rfl (by intro w hSw; (try dsimp only at hSw); (have x := hSw.1); clear hSw; go_simp; (try with_reducible rfl)) ?_
      simp only [pR]
      refine tk 4 ?_
      simp only [pR]
      refine tk 5 ?_
      simp only [pR]
      refine tk 6 ?_
      simp only [pR]
      refine tk 7 ?_
      simp only [pR]
      refine tw 8 rfl (by intro w hSw; (try dsimp only at hSw); (have x := hSw.1); clear hSw; go_simp; (try with_reducible rfl)) ?_
      simp only [pR]
      refine tk 9 ?_
      simp only [pR]
      refine tk 10 ?_
      simp only [pR]
      refine tk 11 ?_
      simp only [pR]
      refine tw 12 rfl (by intro w hSw; (try dsimp only at hSw); (have x := hSw.2); clear hSw; go_simp; (try with_reducible rfl)) ?_
      simp only [pR]
      refine tk 13 ?_
      simp only [pR]
      refine tk 14 ?_
      simp only [pR]
      refine rd1 15 (fun K hK => ?_)
      go_simp
      refine hK.out _ _ (⟨(World.cell?_setCell_other _ _ _ _ (fun e => HRL.out (congrArg Addr.block e).symm)).trans C0.out, (World.cell?_setCell_other _ _ _ _ (fun e => by have h := congrArg Addr.off e; simp only at h; omega)).trans D1.out⟩) (fun hHeld => ?_)
      clear hK K
      refine wpAnyH_done (by kernel_rfl) ?_ _
      have P1 := qH (HP.out.setF (i := k) (by simp only [fallTo_length]; exact HLT.out) HSL0.out (H.out.ok.secC HLT.out HC.out))
      have K2 : Hid (Keep (· = lb) w (wd.setCell ⟨lb, k * 2, none⟩ (.slice (some ⟨b0, o0, none⟩) 64 cc))) := K1.out.setCell _ _ rfl
      clear hHeld c0 d0 d1 z0 z1 HP HSL0 C0 D1
      generalize wd.setCell ⟨lb, k * 2, none⟩ (.slice (some ⟨b0, o0, none⟩) 64 cc) = w5 at *
      have HLN : Hid ((secAt (fallTo sel s.L k) k).2 = (secAt s.L k).2) := by show _ = _; rw [fallTo_at sel HLT.out]
      have HLE : Hid (((fallTo sel s.L k).set k (bs, (secAt (fallTo sel s.L k) k).2)).length = s.L.length) := by show _ = _; rw [List.length_set, fallTo_length]
      obtain ⟨c0, _, _, _, _, _, _, _⟩ := drCell P1.out.obj
      simp only [HLE.out] at c0
      obtain ⟨d0, d1, z0, z1⟩ := P1.out.cell (i := k) (by rw [HLE.out]; exact HLT.out)
      have P2 := qH (P1.out.setC (i := k) (by rw [HLE.out]; exact HLT.out) (v := .slice none 0 0) (x := none) ⟨fun _ => rfl, fun b hb => by cases hb⟩)
      have HEND : Hid (((fallTo sel s.L k).set k (bs, (secAt (fallTo sel s.L k) k).2)).set k ((secAt ((fallTo sel s.L k).set k (bs, (secAt (fallTo sel s.L k) k).2)) k).1, none) = fallTo sel s.L (k + 1)) := by
       show _ = _
       rw [fallTo_succ sel HLT.out, List.set_set, secAt_set (by rw [fallTo_length]; exact HLT.out), if_pos rfl]
       have e : left1 sel (rank s.L k) (secAt s.L k) = bs := by unfold left1; rw [HC.out, HRN.out]; simp [HS.out]
       rw [e]
      go_wp2_with fail
      go_roundw
      case rel =>
       have P3 := P2.out
       rw [HEND.out] at P3
       have hr : Value.int IntKind.i64 ((n : Int) + 1) = .int .i64 (rank s.L (k + 1) : Int) := by rw [HRK.out, HC.out]; rfl
       exact ⟨k + 1, _, HLT.out, by go_num, hr, P3, K2.out.setCell _ _ rfl⟩
      case measure => have := HLT.out; simp [intOf]; omega
     | false =>
      have HS := qH hs
      rw [hs] at hbit
      clear hs ev
      have HLN : Hid ((secAt (fallTo sel s.L k) k) = secAt s.L k) := by show _ = _; rw [fallTo_at sel HLT.out]
      have P2 := qH (HP.out.setC (i := k) (by simp only [fallTo_length]; exact HLT.out) (v := .slice none 0 0) (x := none) ⟨fun _ => rfl, fun b hb => by cases hb⟩)
      have HEND : Hid ((fallTo sel s.L k).set k ((secAt (fallTo sel s.L k) k).1, none) = fallTo sel s.L (k + 1)) := by
       show _ = _
       rw [fallTo_succ sel HLT.out, HLN.out]
       have e : left1 sel (rank s.L k) (secAt s.L k) = (secAt s.L k).1 := by unfold left1; rw [HC.out, HRN.out]; simp [HS.out]
       rw [e]
      go_wp2_with fail
      go_roundw
      case rel =>
       have P3 := P2.out
       rw [HEND.out] at P3
       have hr : Value.int IntKind.i64 ((n : Int) + 1) = .int .i64 (rank s.L (k + 1) : Int) := by rw [HRK.out, HC.out]; rfl
       exact ⟨k + 1, _, HLT.out, by go_num, hr, P3, K1.out.setCell _ _ rfl⟩
      case measure => have := HLT.out; simp [intOf]; omega
    ·have hs : sel n = false := by
      rw [← HSEL.out]
      unfold selB
      have h0 : nth st (n / 8) = 0 := by unfold nth; simp [List.getD, List.getElem?_eq_none (show st.length ≤ n / 8 by rw [R1.out.1]; omega)]
      rw [h0, Nat.zero_div]
      rfl
     have HS := qH hs
     have hinI : ¬ (n : Int) / 8 < (m' : Int) := by omega
     clear hs ev
     have HLN : Hid ((secAt (fallTo sel s.L k) k) = secAt s.L k) := by show _ = _; rw [fallTo_at sel HLT.out]
     have P2 := qH (HP.out.setC (i := k) (by simp only [fallTo_length]; exact HLT.out) (v := .slice none 0 0) (x := none) ⟨fun _ => rfl, fun b hb => by cases hb⟩)
     have HEND : Hid ((fallTo sel s.L k).set k ((secAt (fallTo sel s.L k) k).1, none) = fallTo sel s.L (k + 1)) := by
      show _ = _
      rw [fallTo_succ sel HLT.out, HLN.out]
      have e : left1 sel (rank s.L k) (secAt s.L k) = (secAt s.L k).1 := by unfold left1; rw [HC.out, HRN.out]; simp [HS.out]
      rw [e]
     go_wp2_with fail
     go_roundw
     case rel =>
      have P3 := P2.out
      rw [HEND.out] at P3
      have hr : Value.int IntKind.i64 ((n : Int) + 1) = .int .i64 (rank s.L (k + 1) : Int) := by rw [HRK.out, HC.out]; rfl
      exact ⟨k + 1, _, HLT.out, by go_num, hr, P3, K1.out.setCell _ _ rfl⟩
     case measure => have := HLT.out; simp [intOf]; omega
  ·obtain rfl : k = s.L.length := by have := HK.out; omega
   rw [fallTo_all] at hp
   have e2 : (fallL sel 0 s.L).length = s.L.length := fallL_length _ _ _
   have HP := qH hp
   obtain ⟨c0, c1, c2, c3, z0, z1, z2, z3⟩ := drCell hp.obj
   simp only [e2] at c0
   have K1 := qH hkeep
   have hkI : (s.L.length : Int) < 1025 := by have := HN.out; simp only [fallTo_length] at this; omega
   clear hp hkeep hk e2
   go_wp2_with fail
   refine bodyPost_end (results_none rfl _ _ _) rfl ⟨rfl, ?_, ?_⟩
   ·have hk : Keep (· = r) wr (((wr.setCell ⟨r, 1, none⟩ (.bool true)).setCell ⟨r, 2, none⟩ (.int .i64 0)).setCell ⟨r, 3, none⟩ (.slice none 0 0)) := (((Keep.refl (· = r) wr).setCell ⟨r, 1, none⟩ _ rfl).setCell ⟨r, 2, none⟩ _ rfl).setCell ⟨r, 3, none⟩ _ rfl
    have ho : (((wr.setCell ⟨r, 1, none⟩ (.bool true)).setCell ⟨r, 2, none⟩ (.int .i64 0)).setCell ⟨r, 3, none⟩ (.slice none 0 0)).heap[r]? = _ := drSet3 (drSet2 (drSet1 HP.out.obj (.bool true)) (.int .i64 0)) (.slice none 0 0)
    exact ⟨lb, cap, vs', none, 0, 0, HP.out.own (up := false) (left := 0) (stay := []) hk ho ⟨Rd.nil _ _ _, by omega, Nat.le_refl _, by omega⟩ (fun b o hm => absurd hm (Nat.lt_irrefl 0)) (Nat.zero_le _)⟩
   ·exact (((K1.out.more (fun k h => .inr h)).setCell _ _ (.inl rfl)).setCell _ _ (.inl rfl)).setCell _ _ (.inl rfl)
end
section
open Go.RowKit
def DrTo (w : World) (r : Nat) (F : Nat → Prop) (x : Int × DS) (e : Ending) (w' : World) : Prop :=
 e = .returned (.int .i64 x.1) ∧ ∃ F', DrAt w' r F' x.2 ∧ (∀ k, F' k → F k ∨ w.heap.size ≤ k) ∧ Keep F w w'
theorem DrTo.same {w : World} {r : Nat} {F : Nat → Prop} {s : DS} {n : Int} (h : DrAt w r F s) : DrTo w r F (n, s) (.returned (.int .i64 n)) w := ⟨rfl, F, h, fun _ hk => .inl hk, Keep.refl _ _⟩
theorem DrTo.after {w0 w w' : World} {r : Nat} {F : Nat → Prop} {x : Int × DS} {e : Ending} (hb : Below w0.heap.size w0 w) (h : DrTo w r F x e w') : DrTo w0 r F x e w' := by
 obtain ⟨he, F', h1, h2, h3⟩ := h
 exact ⟨he, F', h1, fun k hf => (h2 k hf).imp id (Nat.le_trans hb.size), (Keep.of_below hb).trans h3⟩
def DS.fell (s : DS) : DS := if s.left = 1 then s.fall (selB s.stay) else ⟨s.L, s.up, s.left - 1, s.stay⟩
theorem qFalls (r : Nat) (F : Nat → Prop) (s : DS) (w : World) (h : DrAt w r F s) :
  Calls Tryz.prog 51 #[.pointer (some ⟨r, 0, none⟩)] w fun e w' => e = .returned (.bool (decide (s.left = 1))) ∧ DrAt w' r F s.fell ∧ Keep F w w' := by
 obtain ⟨lb, cap, vs, A, m, c, hP⟩ := h
 have H := qH hP
 obtain ⟨c0, c1, c2, c3, z0, z1, z2, z3⟩ := drCell hP.obj
 clear hP c0 c1 z0 z1
 go_enter Tryz.func51, Tryz.ntmps51
 by_cases h0 : s.left = 0
 ·have H0 := qH h0
  rw [h0] at c2
  clear h0
  go_wp2_with fail
  go_ret
  refine ⟨by rw [H0.out]; rfl, ⟨lb, cap, vs, A, m, c, ?_⟩, Keep.refl _ _⟩
  have e : s.fell = s := by
   unfold DS.fell
   rw [if_neg (by rw [H0.out]; decide)]
   show DS.mk s.L s.up (s.left - 1) s.stay = DS.mk s.L s.up s.left s.stay
   rw [H0.out]
  rw [e]
  exact H.out
 ·obtain ⟨l, hl⟩ : ∃ l, s.left = l + 1 := ⟨s.left - 1, by omega⟩
  have HL := qH hl
  have hlt := H.out.ok.lt
  rw [hl] at c2 hlt
  have hne : ¬ ((l + 1 : Nat) : Int) = 0 := by omega
  have e1 : ((l + 1 : Nat) : Int) - 1 = (l : Int) := by omega
  have hk : Keep (· = r) w (w.setCell ⟨r, 2, none⟩ (.int .i64 (l : Int))) := (Keep.refl (· = r) w).setCell ⟨r, 2, none⟩ _ rfl
  have HP := qH (H.out.own (up := s.up) (left := l) (stay := s.stay) hk (drSet2 H.out.obj _) H.out.stay H.out.soff (by omega))
  have K1 := qH (hk.more (R' := F) (fun k h => by rw [h]; exact H.out.fr))
  clear h0 hl hk
  by_cases hl0 : l = 0
  ·subst hl0
   have HF := qH (qFall r lb cap vs A m c F _ _ HP.out A m c s.stay HP.out.stay.1 (fun b o hm e => (HP.out.soff b o hm e).2.2))
   go_wp2_with fail
   refine (HF.out).mono ?_
   rintro e w2 ⟨rfl, hd, hk⟩
   have D2 := qH hd
   have K2 := qH hk
   clear hd hk
   go_wp2_with fail
   go_ret
   refine ⟨by rw [HL.out]; rfl, ?_, K1.out.trans (K2.out.more (fun k h => by rcases h with rfl | rfl; exact H.out.fr; exact H.out.fl))⟩
   have e : s.fell = s.fall (selB s.stay) := by unfold DS.fell; rw [if_pos HL.out]
   rw [e]
   exact D2.out
  ·have hl1 : (l : Int) > 0 := by omega
   have HL0 : Hid (¬ l = 0) := hl0
   clear hl0
   go_wp2_with fail
   go_ret
   refine ⟨?_, ?_, K1.out⟩
   ·have : ¬ s.left = 1 := by rw [HL.out]; have := HL0.out; omega
    rw [decide_eq_false this]; rfl
   ·have e : s.fell = ⟨s.L, s.up, l, s.stay⟩ := by unfold DS.fell; rw [if_neg (by rw [HL.out]; have := HL0.out; omega), HL.out]; rfl
    rw [e]
    exact ⟨lb, cap, vs, A, m, c, HP.out⟩
theorem qCrash (r : Nat) (F : Nat → Prop) (s : DS) (A : Option Addr) (n c : Nat) (st : List UInt8) (w : World) (h : DrAt w r F s) (hr : Rd w w.heap.size A n st) (ho : Off A n F) :
  Calls Tryz.prog 33 #[.pointer (some ⟨r, 0, none⟩), .slice A n c] w (DrTo w r F (s.crash st)) := by
 obtain ⟨lb, cap, vs, A0, m0, c00, hP⟩ := h
 have H := qH hP
 obtain ⟨c0, c1, c2, c3, z0, z1, z2, z3⟩ := drCell hP.obj
 have HF := qH (qFall r lb cap vs A0 m0 c00 F s w hP A n c st hr (fun b o hm e hb => ho hm b o e (by rw [hb]; exact hP.fl)))
 clear hP c0 c2 c3 z0 z1 z2 z3 hr ho
 go_enter Tryz.func33, Tryz.ntmps33
 cases hu : s.up
 ·have HU := qH hu
  rw [hu] at c1
  clear hu
  go_wp2_with fail
  go_ret
  rw [DS.crash, HU.out, if_pos rfl]
  exact DrTo.same ⟨_, _, _, _, _, _, H.out⟩
 ·have HU := qH hu
  rw [hu] at c1
  clear hu
  go_wp2_with fail
  refine (HF.out).mono ?_
  rintro e w2 ⟨rfl, hd, hk⟩
  have D2 := qH hd
  have K2 := qH hk
  clear hd hk
  go_wp2_with fail
  go_ret
  rw [DS.crash, HU.out, if_neg (by decide)]
  exact ⟨rfl, F, D2.out, fun _ hk => .inl hk, K2.out.more (fun k h => by rcases h with rfl | rfl; exact H.out.fr; exact H.out.fl)⟩
theorem qStart (r : Nat) (F : Nat → Prop) (s : DS) (w : World) (h : DrAt w r F s) : Calls Tryz.prog 34 #[.pointer (some ⟨r, 0, none⟩)] w (DrTo w r F s.start) := by
 obtain ⟨lb, cap, vs, A, m, c, hP⟩ := h
 have H := qH hP
 obtain ⟨c0, c1, c2, c3, z0, z1, z2, z3⟩ := drCell hP.obj
 clear hP c0 c2 c3 z0 z2 z3
 go_enter Tryz.func34, Tryz.ntmps34
 cases hu : s.up
 ·have HU := qH hu
  rw [hu] at c1
  clear hu
  go_wp2_with fail
  go_ret
  rw [DS.start, HU.out, if_neg (by decide)]
  have hk : Keep (· = r) w (w.setCell ⟨r, 1, none⟩ (.bool false)) := (Keep.refl (· = r) w).setCell ⟨r, 1, none⟩ _ rfl
  exact ⟨rfl, F, ⟨lb, cap, vs, A, m, c, H.out.own (up := true) (left := s.left) (stay := s.stay) hk (drSet1 H.out.obj _) H.out.stay H.out.soff H.out.ok.lt⟩, fun _ hk => .inl hk, (Keep.refl _ _).setCell _ _ H.out.fr⟩
 ·have HU := qH hu
  rw [hu] at c1
  clear hu
  go_wp2_with fail
  go_ret
  rw [DS.start, HU.out, if_pos rfl]
  exact DrTo.same ⟨_, _, _, _, _, _, H.out⟩
theorem DrP.more {w : World} {r lb cap : Nat} {vs : List (Value × Value)} {A : Option Addr} {m c : Nat} {F G : Nat → Prop} {s : DS} (h : DrP w r lb cap vs A m c F s) (hg : ∀ k, F k → G k) (hl : ∀ k, G k → k < w.heap.size) : DrP w r lb cap vs A m c G s :=
 ⟨h.obj, h.len, h.row, fun i hi => (h.sec i hi).more hg, h.stay, fun b o hm e => ⟨hg _ (h.soff b o hm e).1, (h.soff b o hm e).2⟩, hg _ h.fr, hg _ h.fl, h.rl, hl, h.cap, h.ok⟩
theorem qArm (r : Nat) (F : Nat → Prop) (s : DS) (i : Int) (A : Option Addr) (n c : Nat) (st : List UInt8) (w : World) (h : DrAt w r F s) (hi : i ≤ 9223372036854775807) (hr : Rd w w.heap.size A n st) (hn : n ≤ 140737488355328) (ho : Off A n F) :
  Calls Tryz.prog 35 #[.pointer (some ⟨r, 0, none⟩), .int .i64 i, .slice A n c] w (DrTo w r F (s.arm i st)) := by
 obtain ⟨lb, cap, vs, A0, m0, c00, hP⟩ := h
 have H := qH hP
 obtain ⟨c0, c1, c2, c3, z0, z1, z2, z3⟩ := drCell hP.obj
 have R := qH hr
 have HO := qH ho
 have HI := qH hi
 clear hP c0 z0 z1 hr ho hi
 go_enter Tryz.func35, Tryz.ntmps35
 cases hu : s.up
 ·have HU := qH hu
  rw [hu] at c1
  clear hu
  go_wp2_with fail
  go_ret
  rw [DS.arm, HU.out, if_pos rfl]
  exact DrTo.same ⟨_, _, _, _, _, _, H.out⟩
 have HU := qH hu
 rw [hu] at c1
 clear hu
 by_cases hlt : i < 1
 ·have HL : Hid (i < 1) := hlt
  go_wp2_with fail
  go_ret
  rw [DS.arm, HU.out, if_neg (by decide), if_pos HL.out]
  exact DrTo.same ⟨_, _, _, _, _, _, H.out⟩
 ·obtain ⟨l, rfl⟩ : ∃ l : Nat, i = (l : Int) := ⟨i.toNat, by omega⟩
  have HL : Hid (1 ≤ l) := by show _ ≤ _; omega
  go_wp2_with fail
  have hk : Keep (· = r) w (w.setCell ⟨r, 2, none⟩ (.int .i64 (l : Int))) := (Keep.refl (· = r) w).setCell ⟨r, 2, none⟩ _ rfl
  have R1 := qH (R.out.kept hk (fun hn b o e hb => HO.out hn b o e (by rw [show b = r from hb]; exact H.out.fr)))
  have O1 := drSet2 (v := .int .i64 (l : Int)) H.out.obj
  have HO1 := qH O1
  have KF : Hid (Keep (· = r) w (w.setCell ⟨r, 2, none⟩ (.int .i64 (l : Int)))) := hk
  clear hk O1 z2 z3 c1 c2 c3
  generalize w.setCell ⟨r, 2, none⟩ (.int .i64 (l : Int)) = w1 at *
  refine (refCopy A n c st w1 R1.out hn).mono ?_
  rintro e w2 ⟨A2, n2, c2, rfl, hown, hb⟩
  have hcp := own_cap hown
  have RD := qH (Rd.of_own hown)
  have hn2 : n2 = n := by rw [← RD.out.1, R1.out.1]
  subst hn2
  have OW := qH (own_head hown)
  have HCP : Hid (n2 ≤ c2 ∧ c2 ≤ 9223372036854775807) := hcp
  have B2 := qH hb
  obtain ⟨_, _, _, c3, _, _, _, z3⟩ := drCell ((hb.block r (heap_at_lt HO1.out)).trans HO1.out)
  have HO2 := qH ((hb.block r (heap_at_lt HO1.out)).trans HO1.out)
  clear hown hb hcp
  go_wp2_with fail
  go_ret
  have P1 := H.out.own (up := s.up) (left := l) (stay := s.stay) KF.out HO1.out H.out.stay H.out.soff (by have := HI.out; omega)
  have P2 := (P1.to B2.out).more (G := fun k => F k ∨ (w.heap.size ≤ k ∧ k < w2.heap.size)) (fun k h => .inl h) (fun k h => by rcases h with h | h; exact Nat.lt_of_lt_of_le (P1.lt k h) B2.out.size; exact h.2)
  have hk3 : Keep (· = r) w2 (w2.setCell ⟨r, 3, none⟩ (.slice A2 n2 c2)) := (Keep.refl (· = r) w2).setCell ⟨r, 3, none⟩ _ rfl
  have ho : (w2.setCell ⟨r, 3, none⟩ (.slice A2 n2 c2)).heap[r]? = _ := drSet3 HO2.out _
  have hw1 := KF.out.size
  have P3 := P2.own (up := s.up) (left := l) (stay := st) hk3 ho ⟨RD.out, hn, HCP.out.1, HCP.out.2⟩ (fun b o hm e => by
   obtain ⟨g, hg, hgb⟩ := OW.out hm
   rw [e] at hg
   injection hg with hg; injection hg with hg _
   obtain ⟨b', o', e', hlt', _⟩ := RD.out.2 hm
   rw [e] at e'
   injection e' with e'; injection e' with e1 _
   have h1 := H.out.lt r H.out.fr
   have h2 := H.out.lt lb H.out.fl
   exact ⟨.inr ⟨by omega, by omega⟩, by omega, by omega⟩) (by have := HI.out; omega)
  rw [show s.arm (l : Int) st = (0, ⟨s.L, s.up, l, st⟩) from by unfold DS.arm; rw [if_neg (by rw [HU.out]; decide), if_neg (by have := HL.out; omega), Int.toNat_natCast]]
  exact ⟨rfl, _, ⟨lb, cap, vs, A2, n2, c2, P3⟩, fun k hk => hk.imp id (fun h => h.1), (((KF.out.trans (Keep.of_below B2.out)).trans hk3).more (fun k h => by rw [h]; exact H.out.fr))⟩
end
section
open Go.RowKit
theorem isInts : KT Tryz.prog 115 3 .i64 8 := ⟨Tryz.underlying115, by kernel_rfl, by decide⟩
def DirRel (w : World) (L : List Sec) (v i : Value) (wr : World) : Prop :=
 ∃ k, k ≤ L.length ∧ i = .int .i64 (k : Int) ∧ wr.ownsRow w.heap.size 3 1 v (dirtyL (L.take k)).length ((dirtyL (L.take k)).map (kv .i64)) ∧ Below w.heap.size w wr
def FlRel (w : World) (r lb cap : Nat) (A : Option Addr) (m c : Nat) (F : Nat → Prop) (s : DS) (i : Value) (wr : World) : Prop :=
 ∃ k vs, k ≤ s.L.length ∧ i = .int .i64 (k : Int) ∧ DrP wr r lb cap vs A m c F ⟨fallTo (fun _ => true) s.L k, s.up, s.left, s.stay⟩ ∧ Keep (· = lb) w wr
theorem fell_up {s : DS} (h : ¬ s.left = 1) : s.fell = ⟨s.L, s.up, s.left - 1, s.stay⟩ := by unfold DS.fell; rw [if_neg h]
theorem qFlush (r : Nat) (F : Nat → Prop) (s : DS) (w : World) (h : DrAt w r F s) : Calls Tryz.prog 31 #[.pointer (some ⟨r, 0, none⟩)] w (DrTo w r F s.flush) := by
 have HFA := qH (qFalls r F s w h)
 have H := qH h
 obtain ⟨lb0, cap0, vs0, A0, m0, c00, hP⟩ := h
 obtain ⟨_, c1, _, _, _, _, _, _⟩ := drCell hP.obj
 clear hP
 go_enter Tryz.func31, Tryz.ntmps31
 cases hu : s.up
 ·have HU := qH hu
  rw [hu] at c1
  clear hu
  go_wp2_with fail
  go_ret
  rw [DS.flush, HU.out, if_pos rfl]
  exact DrTo.same H.out
 have HU := qH hu
 rw [hu] at c1
 clear hu
 by_cases h1 : s.left = 1
 ·have HL := qH h1
  have e1 : decide (s.left = 1) = true := by simp [h1]
  rw [e1] at HFA
  clear h1 e1
  go_wp2_with fail
  refine (HFA.out).mono ?_
  rintro e w1 ⟨rfl, hd, hk⟩
  have D1 := qH hd
  have K1 := qH hk
  clear hd hk
  go_wp2_with fail
  go_ret
  rw [show s.flush = (60, s.fall (selB s.stay)) from by unfold DS.flush; rw [if_neg (c := s.up = false) (by rw [HU.out]; decide), if_pos HL.out]]
  have e : s.fell = s.fall (selB s.stay) := by unfold DS.fell; rw [if_pos HL.out]
  rw [e] at D1
  exact ⟨rfl, F, D1.out, fun _ hk => .inl hk, K1.out⟩
 ·have HL : Hid (¬ s.left = 1) := h1
  have e1 : decide (s.left = 1) = false := by simp [h1]
  rw [e1] at HFA
  clear h1 e1
  go_wp2_with fail
  refine (HFA.out).mono ?_
  rintro e w1 ⟨rfl, hd, hk⟩
  rw [fell_up HL.out] at hd
  obtain ⟨lb, cap, vs, A, m, c, hP⟩ := hd
  obtain ⟨s1, hs1⟩ : ∃ s1 : DS, (⟨s.L, s.up, s.left - 1, s.stay⟩ : DS) = s1 := ⟨_, rfl⟩
  have HS1 := qH hs1
  rw [hs1] at hP
  have H1 := qH hP
  have K1 := qH hk
  have HFL : Hid (s.flush = (0, ⟨fallL (fun _ => true) 0 s1.L, s1.up, s1.left, s1.stay⟩)) := by
   show _ = _
   unfold DS.flush
   rw [if_neg (c := s.up = false) (by rw [HU.out]; decide), if_neg (by exact HL.out), ← hs1]
   rfl
  clear hP hk hs1 c1 H HFA HS1
  go_wp2_with fail
  go_loopw [3] (fun i wr => FlRel w1 r lb cap A m c F s1 i wr) (fun i _ => s1.L.length - (intOf i).toNat)
  case atStart => exact ⟨0, vs, Nat.zero_le _, rfl, by rw [fallTo_zero]; exact H1.out, Keep.refl _ _⟩
  case round =>
   obtain ⟨k, vs', hk, rfl, hp, hkeep⟩ := hrel
   have HP := qH hp
   have K2 := qH hkeep
   have HK := qH hk
   obtain ⟨c0, c1, c2, c3, _, _, _, _⟩ := drCell hp.obj
   simp only [fallTo_length] at c0
   have HN := qH hp.ok.len
   clear c1 c2 c3
   by_cases hlt : k < s1.L.length
   ·have HLT : Hid (k < s1.L.length) := hlt
    obtain ⟨d0, d1, z0, z1⟩ := hp.cell (i := k) (by simp only [fallTo_length]; exact hlt)
    obtain ⟨e0, e1, e2⟩ := hp.sec k (by simp only [fallTo_length]; exact hlt)
    simp only [fallTo_at _ hlt] at e0 e1 e2
    have q := u8_some
    have hkI : (k : Int) < 1025 := by have := HN.out; simp only [fallTo_length] at this; omega
    have hkn : (k : Int) < (s1.L.length : Int) := by omega
    cases hc : (secAt s1.L k).2 with
    | none =>
     have HC := qH hc
     rw [e1 hc] at d1
     clear e0 e1 e2 hp hkeep hk d0 z0 z1 hc
     go_wp2_with fail
     go_roundw
     case rel => exact ⟨k + 1, vs', HLT.out, by go_num, by rw [fallTo_same _ HLT.out HC.out]; exact HP.out, K2.out⟩
     case measure => have := HLT.out; simp [intOf]; omega
    | some bs =>
     have HC := qH hc
     have HE2 := qH (e2 bs hc)
     obtain ⟨b0, o0, cc, ev, _, _, _, _⟩ := e2 bs hc
     rw [ev] at d1
     have HV0 : Hid ((vAt vs' k).2 = .slice (some ⟨b0, o0, none⟩) 64 cc) := ev
     have HSL0 : Hid (DrSl wr r lb F (.slice (some ⟨b0, o0, none⟩) 64 cc) bs) := by rw [← ev]; exact HE2.out
     have HCL := qH (H1.out.ok.secC hlt hc)
     clear e0 e1 e2 hp hkeep hk hc ev
     go_wp2_with fail
     replace HP : Hid (DrP wr.drew r lb cap vs' A m c F ⟨fallTo (fun _ => true) s1.L k, s1.up, s1.left, s1.stay⟩) := HP.out.kept (R := fun _ => False) (Keep.refl _ _).drew (fun _ _ h => h)
     replace K2 := qH K2.out.drew
     replace HSL0 : Hid (DrSl wr.drew r lb F (.slice (some ⟨b0, o0, none⟩) 64 cc) bs) := HSL0.out.block (Nat.le_refl _) (fun _ _ _ _ => rfl)
     clear c0 d0 d1 z0 z1 HE2
     generalize hwd : wr.drew = wd at *
     have HWD := qH hwd
     clear hwd
     obtain ⟨c0, _, _, _, _, _, _, _⟩ := drCell HP.out.obj
     simp only [fallTo_length] at c0
     obtain ⟨d0, d1, z0, z1⟩ := HP.out.cell (i := k) (by simp only [fallTo_length]; exact HLT.out)
     rw [HV0.out] at d1
     have C0 := qH c0
     have D1 := qH d1
     have HRL : Hid (r ≠ lb) := HP.out.rl
     refine wp_region_held_drew (S := (fun w' => w'.cell? ⟨r, 0, none⟩ = some (.slice (some ⟨lb, 0, none⟩) s1.L.length cap) ∧ w'.cell? ⟨lb, k * 2 + 1, none⟩ = some (.slice (some ⟨b0, o0, none⟩) 64 cc))) (by kernel_rfl) ((by rw [HWD.out]; exact ⟨C0.out, D1.out⟩)) (fun hHeld => ?_)
     rw [HWD.out] at hHeld ⊢
     refine tk 0 ?_
     simp only [pR]
     refine tk 1 ?_
     simp only [pR]
     refine tk 2 ?_
     simp only [pR]
     refine tw 3 rfl (by intro w hSw; (try dsimp only at hSw); (have x := hSw.1); clear hSw; go_simp; (try with_reducible rfl)) ?_
     simp only [pR]
     refine tk 4 ?_
     simp only [pR]
     refine tk 5 ?_
     simp only [pR]
     refine tk 6 ?_
     simp only [pR]
     refine tk 7 ?_
     simp only [pR]
     refine tw 8 rfl (by intro w hSw; (try dsimp only at hSw); (have x := hSw.1); clear hSw; go_simp; (try with_reducible rfl)) ?_
     simp only [pR]
     refine tk 9 ?_
     simp only [pR]
     refine tk 10 ?_
     simp only [pR]
     refine tk 11 ?_
     simp only [pR]
     refine tw 12 rfl (by intro w hSw; (try dsimp only at hSw); (have x := hSw.2); clear hSw; go_simp; (try with_reducible rfl)) ?_
     simp only [pR]
     refine tk 13 ?_
     simp only [pR]
     refine tk 14 ?_
     simp only [pR]
     refine rd1 15 (fun K hK => ?_)
     go_simp
     refine hK.out _ _ (⟨(World.cell?_setCell_other _ _ _ _ (fun e => HRL.out (congrArg Addr.block e).symm)).trans C0.out, (World.cell?_setCell_other _ _ _ _ (fun e => by have h := congrArg Addr.off e; simp only at h; omega)).trans D1.out⟩) (fun hHeld => ?_)
     clear hK K
     refine wpAnyH_done (by kernel_rfl) ?_ _
     have P1 := qH (HP.out.setF (i := k) (by simp only [fallTo_length]; exact HLT.out) HSL0.out HCL.out)
     have K3 : Hid (Keep (· = lb) w1 (wd.setCell ⟨lb, k * 2, none⟩ (.slice (some ⟨b0, o0, none⟩) 64 cc))) := K2.out.setCell _ _ rfl
     clear hHeld c0 d0 d1 z0 z1 HP HSL0 C0 D1
     generalize wd.setCell ⟨lb, k * 2, none⟩ (.slice (some ⟨b0, o0, none⟩) 64 cc) = w5 at *
     have HLE : Hid (((fallTo (fun _ => true) s1.L k).set k (bs, (secAt (fallTo (fun _ => true) s1.L k) k).2)).length = s1.L.length) := by show _ = _; rw [List.length_set, fallTo_length]
     obtain ⟨c0, _, _, _, _, _, _, _⟩ := drCell P1.out.obj
     simp only [HLE.out] at c0
     obtain ⟨d0, d1, z0, z1⟩ := P1.out.cell (i := k) (by rw [HLE.out]; exact HLT.out)
     have P2 := qH (P1.out.setC (i := k) (by rw [HLE.out]; exact HLT.out) (v := .slice none 0 0) (x := none) ⟨fun _ => rfl, fun b hb => by cases hb⟩)
     have HEND : Hid (((fallTo (fun _ => true) s1.L k).set k (bs, (secAt (fallTo (fun _ => true) s1.L k) k).2)).set k ((secAt ((fallTo (fun _ => true) s1.L k).set k (bs, (secAt (fallTo (fun _ => true) s1.L k) k).2)) k).1, none) = fallTo (fun _ => true) s1.L (k + 1)) := by
      show _ = _
      rw [fallTo_succ _ HLT.out, List.set_set, secAt_set (by rw [fallTo_length]; exact HLT.out), if_pos rfl]
      have e : left1 (fun _ => true) (rank s1.L k) (secAt s1.L k) = bs := by unfold left1; rw [HC.out]; simp
      rw [e]
     go_wp2_with fail
     go_roundw
     case rel =>
      have P3 := P2.out
      rw [HEND.out] at P3
      exact ⟨k + 1, _, HLT.out, by go_num, P3, K3.out.setCell _ _ rfl⟩
     case measure => have := HLT.out; simp [intOf]; omega
   ·obtain rfl : k = s1.L.length := by have := HK.out; omega
    rw [fallTo_all] at HP
    have hkI : (s1.L.length : Int) < 1025 := by have := HN.out; simp only [fallTo_length] at this; omega
    clear hp hkeep hk
    go_wp2_with fail
    go_ret
    rw [HFL.out]
    exact ⟨rfl, F, ⟨_, _, _, _, _, _, HP.out⟩, fun _ hk => .inl hk, K1.out.trans (K2.out.more (fun k h => by rw [h]; exact H1.out.fl))⟩
end
section
open Go.RowKit
theorem DrSl.of_own {w : World} {B r lb : Nat} {F : Nat → Prop} {A : Option Addr} {c : Nat} {bs : List UInt8} (h : w.ownsRow B 5 1 (.slice A 64 c) 64 (bs.map bval)) (hf : ∀ k, B ≤ k → k < w.heap.size → F k) (hr : r < B) (hl : lb < B) : DrSl w r lb F (.slice A 64 c) bs := by
 have hR := Rd.of_own h
 obtain ⟨g, rfl, hB⟩ := own_head h (by decide)
 have hlt := hR.blk (by decide)
 exact ⟨g, 0, c, rfl, hR, hf g hB hlt, by omega, by omega⟩
theorem qWrite (r : Nat) (F : Nat → Prop) (s : DS) (i : Int) (A : Option Addr) (n c : Nat) (b : List UInt8) (w : World) (h : DrAt w r F s) (hr : Rd w w.heap.size A n b) (hn : n ≤ 140737488355328) (ho : Off A n F) :
  Calls Tryz.prog 29 #[.pointer (some ⟨r, 0, none⟩), .int .i64 i, .slice A n c] w (DrTo w r F (s.write i b)) := by
 have HFA := qH (qFalls r F s w h)
 have H := qH h
 have R := qH hr
 have HO := qH ho
 obtain ⟨lb0, cap0, vs0, A0, m0, c00, hP⟩ := h
 obtain ⟨c0, c1, _, _, _, _, _, _⟩ := drCell hP.obj
 have HNN := qH R.out.1
 clear hP hr ho
 go_enter Tryz.func29, Tryz.ntmps29
 cases hu : s.up
 ·have HU := qH hu
  rw [hu] at c1
  clear hu
  go_wp2_with fail
  go_ret
  rw [DS.write, HU.out, if_pos rfl]
  exact DrTo.same H.out
 have HU := qH hu
 rw [hu] at c1
 clear hu
 by_cases h0 : i < 0
 ·have HH : Hid (s.has i = false) := by show _ = _; simp only [DS.has, decide_eq_false_iff_not]; omega
  go_wp2_with fail
  go_ret
  rw [DS.write, HU.out, if_neg (by decide), HH.out, if_pos rfl]
  exact DrTo.same H.out
 by_cases h1 : i ≥ (s.L.length : Int)
 ·have HH : Hid (s.has i = false) := by show _ = _; simp only [DS.has, decide_eq_false_iff_not]; omega
  go_wp2_with fail
  go_ret
  rw [DS.write, HU.out, if_neg (by decide), HH.out, if_pos rfl]
  exact DrTo.same H.out
 have HH : Hid (s.has i = true) := by show _ = _; simp only [DS.has, decide_eq_true_eq]; omega
 by_cases h64 : n = 64
 ·subst h64
  obtain ⟨k, rfl⟩ : ∃ k : Nat, i = (k : Int) := ⟨i.toNat, by omega⟩
  have HK : Hid (k < s.L.length) := by show _ < _; omega
  by_cases hl1 : s.left = 1
  ·have HL := qH hl1
   have e1 : decide (s.left = 1) = true := by simp [hl1]
   rw [e1] at HFA
   clear hl1 e1
   go_wp2_with fail
   refine (HFA.out).mono ?_
   rintro e w1 ⟨rfl, hd, hk⟩
   have D1 := qH hd
   have K1 := qH hk
   clear hd hk
   go_wp2_with fail
   go_ret
   rw [show s.write (k : Int) b = (60, s.fall (selB s.stay)) from by
    unfold DS.write
    rw [if_neg (c := s.up = false) (by rw [HU.out]; decide), if_neg (c := s.has (k : Int) = false) (by rw [HH.out]; decide), if_neg (c := b.length ≠ 64) (by rw [HNN.out]; decide), if_pos HL.out]]
   have e : s.fell = s.fall (selB s.stay) := by unfold DS.fell; rw [if_pos HL.out]
   rw [e] at D1
   exact ⟨rfl, F, D1.out, fun _ hk => .inl hk, K1.out⟩
  ·have HL : Hid (¬ s.left = 1) := hl1
   have e1 : decide (s.left = 1) = false := by simp [hl1]
   rw [e1] at HFA
   clear hl1 e1
   go_wp2_with fail
   refine (HFA.out).mono ?_
   rintro e w1 ⟨rfl, hd, hk⟩
   rw [fell_up HL.out] at hd
   obtain ⟨lb, cap, vs, A1, m1, c11, hP⟩ := hd
   have HP := qH hP
   have K1 := qH hk
   have HFL : Hid (s.write (k : Int) b = (0, s.put k b)) := by
    show _ = _
    unfold DS.write
    rw [if_neg (c := s.up = false) (by rw [HU.out]; decide), if_neg (c := s.has (k : Int) = false) (by rw [HH.out]; decide), if_neg (c := b.length ≠ 64) (by rw [HNN.out]; decide), if_neg (by exact HL.out), Int.toNat_natCast]
   have R1 := qH (R.out.kept hk HO.out)
   clear hP hk c1 c0 R HFA
   go_wp2_with fail
   replace HP : Hid (DrP w1.drew r lb cap vs A1 m1 c11 F ⟨s.L, s.up, s.left - 1, s.stay⟩) := HP.out.kept (R := fun _ => False) (Keep.refl _ _).drew (fun _ _ h => h)
   replace K1 := qH K1.out.drew
   replace R1 := qH R1.out.drew'
   generalize hwd : w1.drew = wd at *
   have HWD := qH hwd
   clear hwd
   obtain ⟨c0, _, _, _, _, _, _, _⟩ := drCell HP.out.obj
   have C0 := qH c0
   have HLR := qH (HP.out.lt r HP.out.fr)
   have hkn : (k : Int) < (s.L.length : Int) := by have := HK.out; omega
   clear c0
   refine wp_region_held_drew (S := (fun w' => w'.cell? ⟨r, 0, none⟩ = some (.slice (some ⟨lb, 0, none⟩) s.L.length cap) ∧ True)) (by kernel_rfl) ((by rw [HWD.out]; exact ⟨C0.out, trivial⟩)) (fun hHeld => ?_)
   rw [HWD.out] at hHeld ⊢
   refine tk 0 ?_
   simp only [pR]
   refine tk 1 ?_
   simp only [pR]
   refine tk 2 ?_
   simp only [pR]
   refine tw 3 rfl (by intro w hSw; (try dsimp only at hSw); (have x := hSw.1); clear hSw; go_simp; (try with_reducible rfl)) ?_
   simp only [pR]
   refine tk 4 ?_
   simp only [pR]
   refine tk 5 ?_
   simp only [pR]
   refine rd1 6 (fun K hK => ?_)
   go_simp
   refine (refCopy A 64 c b wd R1.out (by decide)).mono ?_
   rintro e w6 ⟨A6, n6, c6, rfl, hown, hb⟩
   have O6 := qH hown
   have B6 := qH hb
   clear hown hb
   go_wp2_with fail
   refine hK.out _ _ (⟨(B6.out.cell HLR.out).trans C0.out, trivial⟩) (fun hHeld => ?_)
   clear hK K
   obtain rfl : n6 = 64 := by rw [← (Rd.of_own O6.out).1, HNN.out]
   obtain ⟨d0, d1, z0, z1⟩ := (HP.out.to B6.out).cell (i := k) HK.out
   refine tk 7 ?_
   simp only [pR]
   refine tk 8 ?_
   simp only [pR]
   have P2 := (HP.out.to B6.out).more (G := fun k => F k ∨ (wd.heap.size ≤ k ∧ k < w6.heap.size)) (fun k h => .inl h) (fun k h => by rcases h with h | h; exact Nat.lt_of_lt_of_le (HP.out.lt k h) B6.out.size; exact h.2)
   have P3 := qH (P2.setC (i := k) HK.out (v := .slice A6 64 c6) (x := some b) ⟨fun h => (by cases h), fun b' hb' => by
    injection hb' with hb'
    subst hb'
    exact ⟨DrSl.of_own O6.out (fun k h1 h2 => .inr ⟨h1, h2⟩) HLR.out (HP.out.lt lb HP.out.fl), HNN.out⟩⟩)
   have HRL : Hid (lb ≠ r) := fun e => HP.out.rl e.symm
   have C6 := qH ((B6.out.cell HLR.out).trans C0.out)
   clear P2 d0 z0
   refine rd1 9 (fun K hK => ?_)
   go_simp
   refine hK.out _ _ (⟨(World.cell?_setCell_other _ _ _ _ (fun e => HRL.out (congrArg Addr.block e))).trans C6.out, trivial⟩) (fun hHeld => ?_)
   clear hK K
   refine wpAnyH_done (by kernel_rfl) ?_ _
   clear hHeld d1 z1
   go_wp2_with fail
   go_ret
   rw [HFL.out]
   refine ⟨rfl, _, ⟨lb, cap, _, A1, m1, c11, P3.out⟩, fun k hk => hk.imp id (fun h => Nat.le_trans K1.out.size h.1), (K1.out.trans (Keep.of_below B6.out)).setCell _ _ HP.out.fl⟩
 ·have HN64 : Hid (¬ n = 64) := h64
  have hn64 : ¬ (n : Int) = 64 := by omega
  clear h64
  go_wp2_with fail
  go_ret
  rw [DS.write, HU.out, if_neg (by decide), HH.out, if_neg (by decide), if_pos (by rw [HNN.out]; exact HN64.out)]
  exact DrTo.same H.out
end
section
open Go.RowKit
theorem wp_makeSlice_run {P : Program} {op : Oper} {a : Act} {w w' : World} {K : Act → World → Prop} {Q : Exit → Act → World → Prop} (t : TypeId) (l c : Operand) (ho : op.op = .makeSlice t l c) {lv cv v : Value} (hl : a.eval l = lv) (hc : a.eval c = cv)
  (hrun : (Instr.makeSlice t lv cv).run P w = .ok v w') (h : K (a.put op.dst v) w') : op.wp P a w K Q := by
 unfold Oper.wp
 simp [execOp, ho, hl, hc, hrun, Result.andThen]
 exact h
theorem one_info : (Tryz.prog.info? 54).map (fun i => (i.zero, i.size, i.bytes)) = some (some (.agg #[.slice none 0 0, .slice none 0 0]), 2, 48) := by kernel_rfl
def cellsP (vs : List (Value × Value)) : List Value := (vs.map fun p => [p.1, p.2]).flatten
theorem cellsP_app (a b : List (Value × Value)) : cellsP (a ++ b) = cellsP a ++ cellsP b := by simp [cellsP]
theorem cellsP_at : ∀ (vs : List (Value × Value)) (i : Nat), i < vs.length → (cellsP vs)[i * 2]? = some (vAt vs i).1 ∧ (cellsP vs)[i * 2 + 1]? = some (vAt vs i).2
 | [], i, h => by simp at h
 | p :: vs, 0, _ => by simp [cellsP, vAt]
 | p :: vs, i + 1, h => by
  have ih := cellsP_at vs i (by simpa using h)
  have e : cellsP (p :: vs) = p.1 :: p.2 :: cellsP vs := by simp [cellsP]
  have e2 : vAt (p :: vs) (i + 1) = vAt vs i := by simp [vAt, List.getD]
  rw [e, e2, show (i + 1) * 2 = i * 2 + 1 + 1 from by omega, List.getElem?_cons_succ, List.getElem?_cons_succ, List.getElem?_cons_succ, List.getElem?_cons_succ]
  exact ih
def NewP (wr : World) (B : Nat) (Lv : Value) (p : Value × Value) : Prop := p.2 = .slice none 0 0 ∧ ∃ b c, p.1 = .slice (some ⟨b, 0, none⟩) 64 c ∧ Rd wr wr.heap.size (some ⟨b, 0, none⟩) 64 sec0 ∧ B ≤ b ∧ Lv.ownBlock ≠ some b
theorem own_at {w w' : World} {B z : Nat} {T : TypeId} {v : Value} {n : Nat} {xs : List Value} (h : w.ownsRow B T z v n xs) (hb : Below w.heap.size w w') : w'.ownsRow B T z v n xs := by
 refine ⟨h.1, ?_⟩
 rcases h.2 with h | ⟨g, cap, cur, e, hg, hh, h⟩
 ·exact .inl h
 ·exact .inr ⟨g, cap, cur, e, hg, (hb.block g (heap_at_lt hh)).trans hh, h⟩
theorem own_setOther {w : World} {B z r o : Nat} {T : TypeId} {v u : Value} {n : Nat} {xs : List Value} (h : w.ownsRow B T z v n xs) (hr : r < B) : (w.setCell ⟨r, o, none⟩ u).ownsRow B T z v n xs := by
 refine ⟨h.1, ?_⟩
 rcases h.2 with h | ⟨g, cap, cur, e, hg, hh, h⟩
 ·exact .inl h
 ·exact .inr ⟨g, cap, cur, e, hg, (Below.heap_setCell w ⟨r, o, none⟩ u g (by show g ≠ r; omega)).trans hh, h⟩
theorem NewP.to {w w' : World} {B : Nat} {Lv : Value} {p : Value × Value} (h : NewP w B Lv p) (hb : Below w.heap.size w w') : NewP w' B Lv p := by
 obtain ⟨h1, b, c, h2, h3, h4⟩ := h
 exact ⟨h1, b, c, h2, h3.to hb, h4⟩
theorem NewP.step {w w' : World} {B : Nat} {Lv Lv' : Value} {p : Value × Value} (h : NewP w B Lv p) (hk : Keep (fun b => Lv.ownBlock = some b) w w') (hl : ∀ b, Lv'.ownBlock = some b → Lv.ownBlock = some b ∨ w.heap.size ≤ b) : NewP w' B Lv' p := by
 obtain ⟨h1, b, c, h2, h3, h4, h5⟩ := h
 refine ⟨h1, b, c, h2, h3.kept hk (fun _ b' o e hb => ?_), h4, fun e => ?_⟩
 ·injection e with e; injection e with e _
  subst e
  exact h5 hb
 ·have hlt := h3.blk (by decide)
  rcases hl b e with h | h
  ·exact h5 h
  ·omega
theorem NewP.set {w : World} {B r o : Nat} {Lv u : Value} {p : Value × Value} (h : NewP w B Lv p) (hr : r < B) : NewP (w.setCell ⟨r, o, none⟩ u) B Lv p := by
 obtain ⟨h1, b, c, h2, h3, h4, h5⟩ := h
 exact ⟨h1, b, c, h2, h3.kept ((Keep.refl (· = r) w).setCell ⟨r, o, none⟩ u rfl) (fun _ b' o' e hb => by
  injection e with e; injection e with e _
  have : b' = r := hb
  omega), h4, h5⟩
def NewRel (w : World) (n : Nat) (i : Value) (wr : World) : Prop :=
 ∃ k Lv vs, k ≤ n ∧ i = .int .i64 (k : Int) ∧ vs.length = k ∧ wr.heap[w.heap.size]? = some (.cells #[Lv, .bool false, .int .i64 0, .slice none 0 0] 42 (0, 0)) ∧
  wr.ownsRow (w.heap.size + 1) 54 2 Lv k (cellsP vs) ∧ (∀ p ∈ vs, NewP wr (w.heap.size + 1) Lv p) ∧ Below w.heap.size w wr
theorem qNew (n : Nat) (w : World) (h1 : 1 ≤ n) (h2 : n ≤ 1024) : Calls Tryz.prog 11 #[.int .i64 (n : Int)] w fun e w' => ∃ r, e = .returned (.pointer (some ⟨r, 0, none⟩)) ∧ ∃ F, DrAt w' r F (DS.new n) ∧ (∀ k, F k → w.heap.size ≤ k) ∧ Below w.heap.size w w' := by
 obtain ⟨i0, hi, hz0, hz1, hz2⟩ := info_parts isU8.info
 obtain ⟨j0, gi, gz0, gz1, gz2⟩ := info_parts one_info
 have HI := qH hi
 have HZ0 := qH hz0
 have HZ1 := qH hz1
 have HZ2 := qH hz2
 have GI := qH gi
 have GZ0 := qH gz0
 have GZ1 := qH gz1
 have GZ2 := qH gz2
 have H1 : Hid (1 ≤ n) := h1
 have H2 : Hid (n ≤ 1024) := h2
 have h1024 : (n : Int) < 1025 := by omega
 clear hi hz0 hz1 hz2 gi gz0 gz1 gz2 h1 h2
 go_enter Tryz.func11, Tryz.ntmps11
 go_wp2_with fail
 go_loopw [4] (fun i wr => NewRel w n i wr) (fun i _ => n - (intOf i).toNat)
 case atStart =>
  refine ⟨0, .slice none 0 0, [], Nat.zero_le _, rfl, rfl, ?_, ⟨rfl, .inl ⟨rfl, rfl⟩⟩, fun p hp => by simp at hp, (Below.refl _ _).alloc (Nat.le_refl _) _⟩
  exact heap_alloc_last w _
 case round =>
  obtain ⟨k, Lv, vs, hk, rfl, hvl, hr, hown, hall, hb⟩ := hrel
  have HR := qH hr
  have HOW := qH hown
  have HA := qH hall
  have B1 := qH hb
  have HK := qH hk
  have HV := qH hvl
  clear hvl hk
  by_cases hlt : k < n
  ·have HLT : Hid (k < n) := hlt
   have hkI : (k : Int) < (n : Int) := by omega
   clear hr hown hall hb
   go_wp2_with fail
   replace HR : Hid (wr.drew.heap[w.heap.size]? = some (.cells #[Lv, .bool false, .int .i64 0, .slice none 0 0] 42 (0, 0))) := HR.out
   replace HOW : Hid (wr.drew.ownsRow (w.heap.size + 1) 54 2 Lv k (cellsP vs)) := HOW.out
   replace HA : Hid (∀ p ∈ vs, NewP wr.drew (w.heap.size + 1) Lv p) := HA.out
   replace B1 := qH B1.out.drew
   generalize hwd : wr.drew = wd at *
   have HWD := qH hwd
   clear hwd
   have HLR := qH (heap_at_lt HR.out)
   obtain ⟨c0, _, _, _, z0, _, _, _⟩ := drCell HR.out
   have C0 := qH c0
   clear c0 z0
   obtain ⟨w5, hrun, hown5, hg5⟩ := run_make_full (P := Tryz.prog) wd wd.heap.size 35 5 i0 (.int .u8 0) 1 Tryz.underlying35 HI.out HZ0.out HZ1.out .i64 .i64 64 (by rw [HZ2.out]; decide) (by decide) (Nat.le_refl _)
   have HRUN := qH hrun
   have HB5 : Hid (Below wd.heap.size wd w5) := (Below.refl _ _).grown hg5 (Nat.le_refl _) (fun k hk => by cases hk)
   have e5 : (madeCells (Value.int .u8 0).cells (64 * 1)).toList = sec0.map bval := by
    rw [Nat.mul_one, sec0, List.map_replicate]
    exact toList_madeCells_one _ _
   rw [e5] at hown5
   have RD5 := qH (Rd.of_own hown5)
   have L5 := qH (RD5.out.blk (by decide))
   clear hrun hown5 hg5 e5
   have c0 := C0.out
   have c5 : w5.cell? ⟨w.heap.size, 0, none⟩ = some Lv := (HB5.out.cell HLR.out).trans C0.out
   have hlt5 : w.heap.size < w5.heap.size := Nat.lt_of_lt_of_le HLR.out HB5.out.size
   have HB6 : Hid (Below wd.heap.size wd (w5.alloc (.cells #[.slice (some ⟨wd.heap.size, 0, none⟩) 64 64, .slice none 0 0] 54))) := HB5.out.alloc HB5.out.size _
   have HO6 : Hid ((w5.alloc (.cells #[.slice (some ⟨wd.heap.size, 0, none⟩) 64 64, .slice none 0 0] 54)).ownsRow (w.heap.size + 1) 54 2 Lv k (cellsP vs)) := own_at HOW.out HB6.out
   have HN6 : Hid (∀ j u, ([.slice (some ⟨wd.heap.size, 0, none⟩) 64 64, .slice none 0 0] : List Value)[j]? = some u → (w5.alloc (.cells #[.slice (some ⟨wd.heap.size, 0, none⟩) 64 64, .slice none 0 0] 54)).cell? ((⟨w5.heap.size, 0, none⟩ : Addr).add j) = some u) := World.news_of_block (heap_alloc_last w5 _)
   have HS6 : Hid ((w5.alloc (.cells #[.slice (some ⟨wd.heap.size, 0, none⟩) 64 64, .slice none 0 0] 54)).heap.size = w5.heap.size + 1) := by show _ = _; simp
   have RD6 : Hid (Rd (w5.alloc (.cells #[.slice (some ⟨wd.heap.size, 0, none⟩) 64 64, .slice none 0 0] 54)) (w5.alloc (.cells #[.slice (some ⟨wd.heap.size, 0, none⟩) 64 64, .slice none 0 0] 54)).heap.size (some ⟨wd.heap.size, 0, none⟩) 64 sec0) := RD5.out.grow _
   have HR6 : Hid ((w5.alloc (.cells #[.slice (some ⟨wd.heap.size, 0, none⟩) 64 64, .slice none 0 0] 54)).heap[w.heap.size]? = some (.cells #[Lv, .bool false, .int .i64 0, .slice none 0 0] 42 (0, 0))) := (HB6.out.block w.heap.size HLR.out).trans HR.out
   have HWS : Hid (w.heap.size + 1 ≤ wd.heap.size) := HLR.out
   have HC6 : Hid (∀ u ∈ ([.slice (some ⟨wd.heap.size, 0, none⟩) 64 64, .slice none 0 0] : List Value), u.oneCell' = true) := fun u hu => by
    simp only [List.mem_cons, List.not_mem_nil, or_false] at hu
    rcases hu with rfl | rfl <;> rfl
   refine wp_region_held_drew (S := (fun _ => True)) (by kernel_rfl) (trivial) (fun hHeld => ?_)
   rw [HWD.out]
   refine tk 0 ?_
   simp only [pR]
   refine tk 1 ?_
   simp only [pR]
   refine tk 2 ?_
   simp only [pR]
   refine tk 3 ?_
   simp only [pR]
   refine wpAnyH_ready (rs := [4, 5]) (by kernel_rfl) (by simp) ?_
   refine AllReadyH.cons rfl (fun K hK => ?_) (AllReadyH.cons rfl (fun K hK => ?_) AllReadyH.nil)
   ·skip
    go_simp
    refine hK.out _ _ (trivial) (fun hHeld => ?_)
    clear hK K
    refine rd1 5 (fun K hK => ?_)
    rw [if_pos (by rfl)]
    refine wp_makeSlice_run 35 _ _ rfl rfl rfl HRUN.out ?_
    refine hK.out _ _ trivial (fun hHeld => ?_)
    clear hK K
    refine tk 6 ?_
    simp only [pR]
    refine rd1 7 (fun K hK => ?_)
    go_simp
    refine hK.out _ _ (trivial) (fun hHeld => ?_)
    clear hK K
    generalize w5.alloc (.cells #[.slice (some ⟨wd.heap.size, 0, none⟩) 64 64, .slice none 0 0] 54) = w6 at *
    refine rd1 8 (fun K hK => ?_)
    refine step_append_lies w6 rfl (.tmp 16) (.tmp 19) 40 rfl (w.heap.size + 1) 54 j0 (.agg #[.slice none 0 0, .slice none 0 0]) 2 48 Tryz.underlying40 GI.out GZ0.out GZ1.out GZ2.out rfl (by decide) Lv k (cellsP vs) rfl HO6.out ⟨w5.heap.size, 0, none⟩ 1 1 [.slice (some ⟨wd.heap.size, 0, none⟩) 64 64, .slice none 0 0] rfl rfl HN6.out HC6.out (by decide) (by unfold maxLen; have := H2.out; omega) (by have := H2.out; omega) (by have := HWS.out; have := HB6.out.size; omega) _ rfl ?_
    intro g cap w7 hown7 hg7 hgl hg8
    refine hK.out _ _ (trivial) (fun hHeld => ?_)
    clear hK K
    simp only [pR]
    have KG : Keep (fun b => Lv.ownBlock = some b) w6 w7 := ⟨hg7.os, hg7.tape, hg7.output, hg7.size, fun b hb hn => hg7.block b hb (fun e => hn e.symm)⟩
    have HLO : Hid (∀ j, Lv.ownBlock = some j → w.heap.size + 1 ≤ j ∧ j < wd.heap.size) := fun j hj => HOW.out.lt j hj
    have HR7 := qH ((KG.block w.heap.size (by have := HWS.out; have := HB6.out.size; omega) (fun e => by have := (HLO.out _ e).1; omega)).trans HR6.out)
    obtain ⟨x7, _, _, _, z7, _, _, _⟩ := drCell HR7.out
    have HO7 := qH hown7
    have HP7 : Hid (∀ p ∈ vs ++ [(.slice (some ⟨wd.heap.size, 0, none⟩) 64 64, .slice none 0 0)], NewP w7 (w.heap.size + 1) (.slice (some ⟨g, 0, none⟩) (k + 1) cap) p) := fun p hp => by
     have hlies : ∀ b, (Value.slice (some ⟨g, 0, none⟩) (k + 1) cap).ownBlock = some b → Lv.ownBlock = some b ∨ w6.heap.size ≤ b := fun b hb => by
      simp only [Value.ownBlock, Option.some.injEq] at hb
      subst hb
      exact hgl.imp id (fun e => by omega)
     rcases List.mem_append.1 hp with hp | hp
     ·exact ((HA.out p hp).to HB6.out).step KG hlies
     ·obtain rfl := List.mem_singleton.1 hp
      exact NewP.step (Lv := Lv) ⟨rfl, wd.heap.size, 64, rfl, RD6.out, HWS.out, fun e => Nat.lt_irrefl _ (HLO.out _ e).2⟩ KG hlies
    have HB7 : Hid (Below w.heap.size w w7) := (B1.out.trans (HB6.out.mono B1.out.size)).trans ⟨hg7.os, hg7.tape, hg7.output, hg7.size, fun b hb => hg7.block b (by have := HWS.out; have := HB6.out.size; omega) (fun e => by have := (HLO.out b e.symm).1; omega)⟩
    clear hown7 hg7 hgl hg8 KG c0 c5 hlt5
    refine tk 9 ?_
    simp only [pR]
    refine tk 10 ?_
    simp only [pR]
    refine rd1 11 (fun K hK => ?_)
    go_simp
    refine hK.out _ _ (trivial) (fun hHeld => ?_)
    clear hK K
    refine wpAnyH_done (by kernel_rfl) ?_ _
    clear hHeld
    go_wp2_with fail
    go_roundw
    case rel =>
     refine ⟨k + 1, .slice (some ⟨g, 0, none⟩) (k + 1) cap, vs ++ [(.slice (some ⟨wd.heap.size, 0, none⟩) 64 64, .slice none 0 0)], HLT.out, by go_num, by rw [List.length_append, HV.out]; rfl, ?_, ?_, fun p hp => (HP7.out p hp).set (Nat.lt_succ_self _), HB7.out.setCell (Nat.le_refl _) _⟩
     ·rw [heap_setCell_same _ _ _ _ _ _ HR7.out]; rfl
     ·rw [cellsP_app]
      exact own_setOther HO7.out (Nat.lt_succ_self _)
    case measure => have := HLT.out; simp [intOf]; omega
   ·rw [if_pos (by rfl)]
    refine wp_makeSlice_run 35 _ _ rfl rfl rfl HRUN.out ?_
    refine hK.out _ _ trivial (fun hHeld => ?_)
    clear hK K
    refine tk 6 ?_
    simp only [pR]
    refine wpAnyH_ready (rs := [4, 7]) (by kernel_rfl) (by simp) ?_
    refine AllReadyH.cons rfl (fun K hK => ?_) (AllReadyH.cons rfl (fun K hK => ?_) AllReadyH.nil)
    ·skip
     go_simp
     refine hK.out _ _ (trivial) (fun hHeld => ?_)
     clear hK K
     refine rd1 7 (fun K hK => ?_)
     go_simp
     refine hK.out _ _ (trivial) (fun hHeld => ?_)
     clear hK K
     generalize w5.alloc (.cells #[.slice (some ⟨wd.heap.size, 0, none⟩) 64 64, .slice none 0 0] 54) = w6 at *
     refine rd1 8 (fun K hK => ?_)
     refine step_append_lies w6 rfl (.tmp 16) (.tmp 19) 40 rfl (w.heap.size + 1) 54 j0 (.agg #[.slice none 0 0, .slice none 0 0]) 2 48 Tryz.underlying40 GI.out GZ0.out GZ1.out GZ2.out rfl (by decide) Lv k (cellsP vs) rfl HO6.out ⟨w5.heap.size, 0, none⟩ 1 1 [.slice (some ⟨wd.heap.size, 0, none⟩) 64 64, .slice none 0 0] rfl rfl HN6.out HC6.out (by decide) (by unfold maxLen; have := H2.out; omega) (by have := H2.out; omega) (by have := HWS.out; have := HB6.out.size; omega) _ rfl ?_
     intro g cap w7 hown7 hg7 hgl hg8
     refine hK.out _ _ (trivial) (fun hHeld => ?_)
     clear hK K
     simp only [pR]
     have KG : Keep (fun b => Lv.ownBlock = some b) w6 w7 := ⟨hg7.os, hg7.tape, hg7.output, hg7.size, fun b hb hn => hg7.block b hb (fun e => hn e.symm)⟩
     have HLO : Hid (∀ j, Lv.ownBlock = some j → w.heap.size + 1 ≤ j ∧ j < wd.heap.size) := fun j hj => HOW.out.lt j hj
     have HR7 := qH ((KG.block w.heap.size (by have := HWS.out; have := HB6.out.size; omega) (fun e => by have := (HLO.out _ e).1; omega)).trans HR6.out)
     obtain ⟨x7, _, _, _, z7, _, _, _⟩ := drCell HR7.out
     have HO7 := qH hown7
     have HP7 : Hid (∀ p ∈ vs ++ [(.slice (some ⟨wd.heap.size, 0, none⟩) 64 64, .slice none 0 0)], NewP w7 (w.heap.size + 1) (.slice (some ⟨g, 0, none⟩) (k + 1) cap) p) := fun p hp => by
      have hlies : ∀ b, (Value.slice (some ⟨g, 0, none⟩) (k + 1) cap).ownBlock = some b → Lv.ownBlock = some b ∨ w6.heap.size ≤ b := fun b hb => by
       simp only [Value.ownBlock, Option.some.injEq] at hb
       subst hb
       exact hgl.imp id (fun e => by omega)
      rcases List.mem_append.1 hp with hp | hp
      ·exact ((HA.out p hp).to HB6.out).step KG hlies
      ·obtain rfl := List.mem_singleton.1 hp
       exact NewP.step (Lv := Lv) ⟨rfl, wd.heap.size, 64, rfl, RD6.out, HWS.out, fun e => Nat.lt_irrefl _ (HLO.out _ e).2⟩ KG hlies
     have HB7 : Hid (Below w.heap.size w w7) := (B1.out.trans (HB6.out.mono B1.out.size)).trans ⟨hg7.os, hg7.tape, hg7.output, hg7.size, fun b hb => hg7.block b (by have := HWS.out; have := HB6.out.size; omega) (fun e => by have := (HLO.out b e.symm).1; omega)⟩
     clear hown7 hg7 hgl hg8 KG c0 c5 hlt5
     refine tk 9 ?_
     simp only [pR]
     refine tk 10 ?_
     simp only [pR]
     refine rd1 11 (fun K hK => ?_)
     go_simp
     refine hK.out _ _ (trivial) (fun hHeld => ?_)
     clear hK K
     refine wpAnyH_done (by kernel_rfl) ?_ _
     clear hHeld
     go_wp2_with fail
     go_roundw
     case rel =>
      refine ⟨k + 1, .slice (some ⟨g, 0, none⟩) (k + 1) cap, vs ++ [(.slice (some ⟨wd.heap.size, 0, none⟩) 64 64, .slice none 0 0)], HLT.out, by go_num, by rw [List.length_append, HV.out]; rfl, ?_, ?_, fun p hp => (HP7.out p hp).set (Nat.lt_succ_self _), HB7.out.setCell (Nat.le_refl _) _⟩
      ·rw [heap_setCell_same _ _ _ _ _ _ HR7.out]; rfl
      ·rw [cellsP_app]
       exact own_setOther HO7.out (Nat.lt_succ_self _)
     case measure => have := HLT.out; simp [intOf]; omega
    ·skip
     go_simp
     refine hK.out _ _ (trivial) (fun hHeld => ?_)
     clear hK K
     refine rd1 4 (fun K hK => ?_)
     go_simp
     refine hK.out _ _ (trivial) (fun hHeld => ?_)
     clear hK K
     generalize w5.alloc (.cells #[.slice (some ⟨wd.heap.size, 0, none⟩) 64 64, .slice none 0 0] 54) = w6 at *
     refine rd1 8 (fun K hK => ?_)
     refine step_append_lies w6 rfl (.tmp 16) (.tmp 19) 40 rfl (w.heap.size + 1) 54 j0 (.agg #[.slice none 0 0, .slice none 0 0]) 2 48 Tryz.underlying40 GI.out GZ0.out GZ1.out GZ2.out rfl (by decide) Lv k (cellsP vs) rfl HO6.out ⟨w5.heap.size, 0, none⟩ 1 1 [.slice (some ⟨wd.heap.size, 0, none⟩) 64 64, .slice none 0 0] rfl rfl HN6.out HC6.out (by decide) (by unfold maxLen; have := H2.out; omega) (by have := H2.out; omega) (by have := HWS.out; have := HB6.out.size; omega) _ rfl ?_
     intro g cap w7 hown7 hg7 hgl hg8
     refine hK.out _ _ (trivial) (fun hHeld => ?_)
     clear hK K
     simp only [pR]
     have KG : Keep (fun b => Lv.ownBlock = some b) w6 w7 := ⟨hg7.os, hg7.tape, hg7.output, hg7.size, fun b hb hn => hg7.block b hb (fun e => hn e.symm)⟩
     have HLO : Hid (∀ j, Lv.ownBlock = some j → w.heap.size + 1 ≤ j ∧ j < wd.heap.size) := fun j hj => HOW.out.lt j hj
     have HR7 := qH ((KG.block w.heap.size (by have := HWS.out; have := HB6.out.size; omega) (fun e => by have := (HLO.out _ e).1; omega)).trans HR6.out)
     obtain ⟨x7, _, _, _, z7, _, _, _⟩ := drCell HR7.out
     have HO7 := qH hown7
     have HP7 : Hid (∀ p ∈ vs ++ [(.slice (some ⟨wd.heap.size, 0, none⟩) 64 64, .slice none 0 0)], NewP w7 (w.heap.size + 1) (.slice (some ⟨g, 0, none⟩) (k + 1) cap) p) := fun p hp => by
      have hlies : ∀ b, (Value.slice (some ⟨g, 0, none⟩) (k + 1) cap).ownBlock = some b → Lv.ownBlock = some b ∨ w6.heap.size ≤ b := fun b hb => by
       simp only [Value.ownBlock, Option.some.injEq] at hb
       subst hb
       exact hgl.imp id (fun e => by omega)
      rcases List.mem_append.1 hp with hp | hp
      ·exact ((HA.out p hp).to HB6.out).step KG hlies
      ·obtain rfl := List.mem_singleton.1 hp
       exact NewP.step (Lv := Lv) ⟨rfl, wd.heap.size, 64, rfl, RD6.out, HWS.out, fun e => Nat.lt_irrefl _ (HLO.out _ e).2⟩ KG hlies
     have HB7 : Hid (Below w.heap.size w w7) := (B1.out.trans (HB6.out.mono B1.out.size)).trans ⟨hg7.os, hg7.tape, hg7.output, hg7.size, fun b hb => hg7.block b (by have := HWS.out; have := HB6.out.size; omega) (fun e => by have := (HLO.out b e.symm).1; omega)⟩
     clear hown7 hg7 hgl hg8 KG c0 c5 hlt5
     refine tk 9 ?_
     simp only [pR]
     refine tk 10 ?_
     simp only [pR]
     refine rd1 11 (fun K hK => ?_)
     go_simp
     refine hK.out _ _ (trivial) (fun hHeld => ?_)
     clear hK K
     refine wpAnyH_done (by kernel_rfl) ?_ _
     clear hHeld
     go_wp2_with fail
     go_roundw
     case rel =>
      refine ⟨k + 1, .slice (some ⟨g, 0, none⟩) (k + 1) cap, vs ++ [(.slice (some ⟨wd.heap.size, 0, none⟩) 64 64, .slice none 0 0)], HLT.out, by go_num, by rw [List.length_append, HV.out]; rfl, ?_, ?_, fun p hp => (HP7.out p hp).set (Nat.lt_succ_self _), HB7.out.setCell (Nat.le_refl _) _⟩
      ·rw [heap_setCell_same _ _ _ _ _ _ HR7.out]; rfl
      ·rw [cellsP_app]
       exact own_setOther HO7.out (Nat.lt_succ_self _)
     case measure => have := HLT.out; simp [intOf]; omega
  ·obtain rfl : k = n := by have := HK.out; omega
   clear hr hown hall hb
   go_wp2_with fail
   go_ret
   obtain ⟨g, cap, cur, rfl, hBg, hh, hkc, hcm, hcs, htk⟩ : ∃ g cap cur, Lv = .slice (some ⟨g, 0, none⟩) k cap ∧ w.heap.size + 1 ≤ g ∧ wr.heap[g]? = some (.cells cur 54 (0, 0)) ∧ k ≤ cap ∧ cap ≤ maxLen ∧ cur.size = cap * 2 ∧ cur.toList.take (k * 2) = cellsP vs := by
    rcases HOW.out.2 with ⟨_, h⟩ | h
    ·have := H1.out; omega
    ·exact h
   refine ⟨w.heap.size, rfl, fun b => w.heap.size ≤ b ∧ b < wr.heap.size, ⟨g, cap, vs, none, 0, 0, ?_⟩, fun b hb => hb.1, B1.out⟩
   have eL : (DS.new k).L.length = k := by simp [DS.new]
   have hgl := heap_at_lt hh
   refine ⟨?_, by rw [eL]; exact HV.out, ⟨cur, hh, fun i hi => ?_⟩, fun i hi => ?_, ⟨Rd.nil _ _ _, by omega, Nat.le_refl _, by omega⟩, fun b o hm => absurd hm (Nat.lt_irrefl 0), ⟨Nat.le_refl _, heap_at_lt HR.out⟩, ⟨by omega, hgl⟩, by omega, fun b hb => hb.2, ⟨by rw [eL]; exact hkc, by unfold maxLen at hcm; omega⟩, DS.ok.new H2.out⟩
   ·rw [eL]; exact HR.out
   ·rw [eL] at hi
    obtain ⟨h1, h2⟩ := cellsP_at vs i (by rw [HV.out]; exact hi)
    rw [← htk, List.getElem?_take] at h1 h2
    rw [if_pos (by omega), Array.getElem?_toList] at h1 h2
    exact ⟨h1, h2⟩
   ·rw [eL] at hi
    have hiv : i < vs.length := by rw [HV.out]; exact hi
    have e1 : vAt vs i = vs[i] := by simp [vAt, List.getD, hiv]
    have e2 : secAt (DS.new k).L i = (sec0, none) := by unfold secAt DS.new; simp [List.getD, List.getElem?_replicate, hi]
    rw [e1, e2]
    obtain ⟨h1, b, c, h2, h3, h4, h5⟩ := HA.out vs[i] (List.getElem_mem hiv)
    refine ⟨⟨b, 0, c, h2, h3, ⟨by omega, h3.blk (by decide)⟩, by omega, fun e => h5 (by rw [e]; rfl)⟩, fun _ => h1, fun c hc => by cases hc⟩
end
section
open Go.RowKit
theorem rowsG_info : (Tryz.prog.info? 35).map (fun i => (i.zero, i.size, i.bytes)) = some (some (.slice none 0 0), 1, 24) := by kernel_rfl
def RowsG (w : World) (B : Nat) (v : Value) (rows : List (List UInt8)) (G : Nat → Prop) : Prop :=
 ∃ vs, w.ownsRow B 35 1 v rows.length vs ∧ (∀ b, v.ownBlock = some b → G b) ∧ (∀ k, G k → k < w.heap.size) ∧
  ∀ j, j < rows.length → ∃ A n c, vs[j]? = some (.slice A n c) ∧ Rd w w.heap.size A n (rows.getD j []) ∧ (0 < n → ∀ b o, A = some ⟨b, o, none⟩ → G b ∧ v.ownBlock ≠ some b) ∧ n ≤ c ∧ c ≤ 9223372036854775807
theorem RowsG.nil (w : World) (B : Nat) : RowsG w B (.slice none 0 0) [] (fun _ => False) := ⟨[], ⟨rfl, .inl ⟨rfl, rfl⟩⟩, fun _ h => (by cases h), fun _ h => h.elim, fun _ h => absurd h (Nat.not_lt_zero _)⟩
theorem own_kept {R : Nat → Prop} {w w' : World} {B : Nat} {T : TypeId} {v : Value} {n : Nat} {xs : List Value} (h : w.ownsRow B T 1 v n xs) (hk : Keep R w w') (hn : ∀ b, v.ownBlock = some b → ¬ R b) : w'.ownsRow B T 1 v n xs := by
 refine ⟨h.1, ?_⟩
 rcases h.2 with h | ⟨g, cap, cur, e, hg, hh, h⟩
 ·exact .inl h
 ·exact .inr ⟨g, cap, cur, e, hg, (hk.block g (heap_at_lt hh) (hn g (by rw [e]; rfl))).trans hh, h⟩
theorem RowsG.kept {R : Nat → Prop} {w w' : World} {B : Nat} {v : Value} {rows : List (List UInt8)} {G : Nat → Prop} (h : RowsG w B v rows G) (hk : Keep R w w') (hn : ∀ k, G k → ¬ R k) : RowsG w' B v rows G := by
 obtain ⟨vs, h1, h2, h3, h4⟩ := h
 refine ⟨vs, own_kept h1 hk (fun b e => hn b (h2 b e)), h2, fun k hg => Nat.lt_of_lt_of_le (h3 k hg) hk.size, fun j hj => ?_⟩
 obtain ⟨A, n, c, e, hr, hb, hc⟩ := h4 j hj
 exact ⟨A, n, c, e, hr.kept hk (fun h0 b o e => hn b (hb h0 b o e).1), hb, hc⟩
theorem RowsG.to {w w' : World} {B : Nat} {v : Value} {rows : List (List UInt8)} {G : Nat → Prop} (h : RowsG w B v rows G) (hb : Below w.heap.size w w') : RowsG w' B v rows G := h.kept (R := fun _ => False) (Keep.of_below hb) (fun _ _ h => h)
theorem RowsG.lt {w : World} {B : Nat} {v : Value} {rows : List (List UInt8)} {G : Nat → Prop} (h : RowsG w B v rows G) : ∀ k, G k → k < w.heap.size := by
 obtain ⟨vs, h1, h2, h3, h4⟩ := h
 exact h3
theorem RowsG.at_ {w : World} {B : Nat} {v : Value} {rows : List (List UInt8)} {G : Nat → Prop} (h : RowsG w B v rows G) {j : Nat} (hj : j < rows.length) :
  ∃ g cap A n c, v = .slice (some ⟨g, 0, none⟩) rows.length cap ∧ w.cell? ⟨g, j, none⟩ = some (.slice A n c) ∧ Rd w w.heap.size A n (rows.getD j []) ∧ (0 < n → ∀ b o, A = some ⟨b, o, none⟩ → G b) ∧ n ≤ c ∧ c ≤ 9223372036854775807 := by
 obtain ⟨vs, h1, h2, h3, h4⟩ := h
 obtain ⟨A, n, c, e, hr, hb, hc⟩ := h4 j hj
 obtain ⟨A0, c0, rfl⟩ := own_slice h1
 obtain ⟨g, rfl, _⟩ := own_head h1 (by omega)
 have hc' := h1.cells (g := g) rfl j (.slice A n c) e
 rw [Addr.add_mid] at hc'
 rw [Nat.zero_add] at hc'
 exact ⟨g, c0, A, n, c, rfl, hc', hr, fun h0 b o e => (hb h0 b o e).1, hc⟩
theorem RowsG.slice {w : World} {B : Nat} {v : Value} {rows : List (List UInt8)} {G : Nat → Prop} (h : RowsG w B v rows G) : ∃ A c, v = .slice A rows.length c := by
 obtain ⟨vs, h1, _⟩ := h
 exact own_slice h1
theorem wpList_pushG' {ops : Array Oper} {rest : List Oper} {o : Oper} {a : Act} {Q : Exit → Act → World → Prop} (hgd : o.guard = none) (s x : Operand)
  (ho : o.op = .call { callee := .builtin .append, args := #[s, x], argTypes := #[152, 152] }) {B n c : Nat} {A : Option Addr} {wr : World} {v : Value} {rows : List (List UInt8)} {row : List UInt8} {G : Nat → Prop} (hs : a.eval s = v)
  (hx : a.eval x = .slice (some ⟨wr.heap.size, 0, none⟩) 1 1) (hown : RowsG wr B v rows G) (hr : Rd wr wr.heap.size A n row) (hc : n ≤ c) (hc' : c ≤ 9223372036854775807) (hne : 0 < n → ∀ b o, A = some ⟨b, o, none⟩ → ¬ G b)
  (hB : B ≤ wr.heap.size) (hk : rows.length + 1 ≤ 1000)
  (h : ∀ v' w1, RowsG w1 B v' (rows ++ [row]) (fun k => G k ∨ (0 < n ∧ ∃ o, A = some ⟨k, o, none⟩) ∨ (wr.heap.size ≤ k ∧ k < w1.heap.size)) → Keep G wr w1 → wpList Tryz.prog ops Q rest (a.put o.dst v') w1) : wpList Tryz.prog ops Q (o :: rest) a (wr.alloc (.cells #[.slice A n c] 35)) := by
 obtain ⟨i0, hi, hz0, hz1, hz2⟩ := info_parts rowsG_info
 have hba : Below wr.heap.size wr (wr.alloc (.cells #[.slice A n c] 35)) := (Below.refl _ _).alloc (Nat.le_refl _) _
 obtain ⟨vs, h10, h2, h3, h4⟩ := hown
 have h1 := own_below h10 hba
 have hsz : (wr.alloc (.cells #[.slice A n c] 35)).heap.size = wr.heap.size + 1 := by simp
 refine wpList_plain hgd fun K hK => ?_
 refine wp_append_lies _ s x _ ho B 35 i0 (.slice none 0 0) 1 24 Tryz.underlying152 hi hz0 hz1 hz2 rfl (by decide) v rows.length _ hs h1 ⟨wr.heap.size, 0, none⟩ 1 1 [.slice A n c] hx rfl (cell_one_new _ _ _) ?_ (by decide) ?_ ?_ (by omega) _ rfl ?_
 ·intro u hu; simp at hu; subst hu; rfl
 ·unfold maxLen; omega
 ·omega
 ·intro g cap w1 hown' hgrow hg hg1
  have hkg : Keep (fun b => v.ownBlock = some b) (wr.alloc (.cells #[.slice A n c] 35)) w1 := ⟨hgrow.os, hgrow.tape, hgrow.output, hgrow.size, fun b hb hn => hgrow.block b hb (fun e => hn e.symm)⟩
  have hk0 : Keep (fun b => v.ownBlock = some b) wr w1 := (Keep.of_below hba).trans hkg
  have hlt : ∀ k, G k → k < w1.heap.size := fun k hg => Nat.lt_of_lt_of_le (h3 k hg) hk0.size
  have hown1 : ∀ b, (Value.slice (some ⟨g, 0, none⟩) (rows.length + 1) cap).ownBlock = some b → v.ownBlock = some b ∨ (wr.heap.size ≤ b ∧ b < w1.heap.size) := fun b e => by
   simp only [Value.ownBlock, Option.some.injEq] at e
   subst e
   exact hg.imp id (fun e => ⟨by omega, hg1⟩)
  have hvl : vs.length = rows.length := by simpa using h10.1
  refine hK _ _ (h _ w1 ⟨vs ++ [.slice A n c], by rw [List.length_append]; exact hown', fun b e => ?_, fun k hk => ?_, fun j hj => ?_⟩ (hk0.more (fun b e => h2 b e)))
  ·rcases hown1 b e with h | h
   ·exact .inl (h2 b h)
   ·exact .inr (.inr h)
  ·rcases hk with hk | ⟨h0, o', e⟩ | hk
   ·exact hlt k hk
   ·obtain ⟨b', o'', e', hb', _⟩ := hr.2 h0
    rw [e] at e'
    injection e' with e'; injection e' with e1 _
    have := hk0.size
    omega
   ·exact hk.2
  ·rw [List.length_append] at hj
   rcases Nat.lt_succ_iff_lt_or_eq.1 hj with hlt' | rfl
   ·obtain ⟨A1, n1, c1, e1, hr1, hb1, hcc⟩ := h4 j hlt'
    refine ⟨A1, n1, c1, by rw [List.getElem?_append_left (by omega)]; exact e1, ?_, fun h0 b o e => ⟨.inl (hb1 h0 b o e).1, fun e2 => ?_⟩, hcc⟩
    ·rw [show (rows ++ [row]).getD j [] = rows.getD j [] from by simp [List.getD, List.getElem?_append_left hlt']]
     exact hr1.kept hk0 (fun h0 b o e => (hb1 h0 b o e).2)
    ·rcases hown1 b e2 with h | h
     ·exact (hb1 h0 b o e).2 h
     ·have := h3 b (hb1 h0 b o e).1; omega
   ·refine ⟨A, n, c, by rw [← hvl]; simp, ?_, fun h0 b o e => ⟨.inr (.inl ⟨h0, o, e⟩), fun e2 => ?_⟩, hc, hc'⟩
    ·rw [show (rows ++ [row]).getD rows.length [] = row from by simp [List.getD]]
     exact hr.kept hk0 (fun h0 b o e hb => hne h0 b o e (h2 b hb))
    ·rcases hown1 b e2 with h | h
     ·exact hne h0 b o e (h2 b h)
     ·obtain ⟨b', o'', e', hb', _⟩ := hr.2 h0
      rw [e] at e'
      injection e' with e'; injection e' with e1 _
      omega
end
section
open Go.RowKit
structure Pair (w : World) (d : Nat) (F : Nat → Prop) (r : Nat) (G : Nat → Prop) (s : DS) : Prop where
 dk : DkAt w d F s
 dr : DrAt w r G s
 off : ∀ k, F k → ¬ G k
theorem Pair.to {w w' : World} {d : Nat} {F : Nat → Prop} {r : Nat} {G : Nat → Prop} {s : DS} (h : Pair w d F r G s) (hb : Below w.heap.size w w') : Pair w' d F r G s := ⟨h.dk.to hb, h.dr.to hb, h.off⟩
theorem Pair.drew {w : World} {d : Nat} {F : Nat → Prop} {r : Nat} {G : Nat → Prop} {s : DS} (h : Pair w d F r G s) : Pair w.drew d F r G s :=
 ⟨h.dk.kept (R := fun _ => False) (Keep.refl _ _).drew (fun _ _ h => h), h.dr.kept (R := fun _ => False) (Keep.refl _ _).drew (fun _ _ h => h), h.off⟩
theorem DrAt.cells {w : World} {r : Nat} {G : Nat → Prop} {s : DS} (h : DrAt w r G s) :
  ∃ lb cap, w.cell? ⟨r, 0, none⟩ = some (.slice (some ⟨lb, 0, none⟩) s.L.length cap) ∧ w.cell? ⟨r, 1, none⟩ = some (.bool (!s.up)) ∧ s.L.length ≤ cap ∧ cap ≤ 9223372036854775807 ∧
   ∀ i, i < s.L.length → ∃ b o c, w.cell? ⟨lb, i * 2, none⟩ = some (.slice (some ⟨b, o, none⟩) 64 c) ∧ Rd w w.heap.size (some ⟨b, o, none⟩) 64 (secAt s.L i).1 := by
 obtain ⟨lb, cap, vs, A, m, c, h⟩ := h
 obtain ⟨c0, c1, _⟩ := drCell h.obj
 refine ⟨lb, cap, c0, c1, h.cap.1, h.cap.2, fun i hi => ?_⟩
 obtain ⟨b, o, c, e, hr, _⟩ := (h.sec i hi).1
 exact ⟨b, o, c, by rw [← e]; exact (h.cell hi).1, hr⟩
theorem flushed_len {s : DS} (h : s.ok) (i : Int) : (s.flushed i).length ≤ 64 := by
 unfold DS.flushed
 split
 ·simp
 ·rename_i hh
  simp only [DS.has, decide_eq_false_iff_not, Classical.not_not] at hh
  rw [h.secF (by omega)]
  exact Nat.le_refl _
theorem read_len {s : DS} (h : s.ok) (i : Int) : (s.read i).1.length ≤ 64 := by
 unfold DS.read
 split
 ·simp
 split
 ·simp
 ·rename_i hh
  simp only [DS.has, decide_eq_false_iff_not, Classical.not_not] at hh
  show (Sec.now _).length ≤ 64
  unfold Sec.now
  cases hc : (secAt s.L i.toNat).2 with
  | none => simp only [Option.getD_none]; rw [h.secF (by omega)]; exact Nat.le_refl _
  | some c => simp only [Option.getD_some]; rw [h.secC (by omega) hc]; exact Nat.le_refl _
theorem flushed_out {s : DS} {i : Int} (h : ¬ (0 ≤ i ∧ i < s.L.length)) : s.flushed i = [] := by
 unfold DS.flushed
 rw [if_pos (by simp only [DS.has, decide_eq_false_iff_not]; exact h)]
theorem flushed_in {s : DS} {k : Nat} (h : k < s.L.length) : s.flushed (k : Int) = (secAt s.L k).1 := by
 unfold DS.flushed
 rw [if_neg (by simp only [DS.has, decide_eq_false_iff_not, Classical.not_not]; omega), Int.toNat_natCast]
theorem Off.sub {A : Option Addr} {n : Nat} {R R' : Nat → Prop} (h : Off A n R) (hr : ∀ k, R' k → R k) : Off A n R' := fun hn b o e hb => h hn b o e (hr b hb)
structure Half (w0 w : World) (d : Nat) (F F' : Nat → Prop) (r : Nat) (G : Nat → Prop) (s s' : DS) : Prop where
 dk : DkAt w d F' s'
 dr : DrAt w r G s
 off : ∀ k, F' k → ¬ G k
 new : ∀ k, F' k → F k ∨ w0.heap.size ≤ k
 keep : Keep F w0 w
theorem Pair.half {w1 w2 : World} {d r : Nat} {F G : Nat → Prop} {s : DS} {x : Int × DS} {e : Ending} (h : Pair w1 d F r G s) (h6 : DkTo w1 d F x e w2) : e = .returned (.int .i64 x.1) ∧ ∃ F', Half w1 w2 d F F' r G s x.2 := by
 obtain ⟨he, F', h1, h2, h3⟩ := h6
 exact ⟨he, F', h1, h.dr.kept h3 (fun k hg hf => h.off k hf hg), fun k hf hg => (h2 k hf).elim (fun h' => h.off k h' hg) (fun h' => by have := h.dr.lt k hg; omega), h2, h3⟩
theorem Half.to {w0 w w' : World} {d r : Nat} {F F' G : Nat → Prop} {s s' : DS} (h : Half w0 w d F F' r G s s') (hb : Below w.heap.size w w') : Half w0 w' d F F' r G s s' := ⟨h.dk.to hb, h.dr.to hb, h.off, h.new, h.keep.trans (Keep.of_below hb)⟩
structure Did2 (w0 w : World) (d : Nat) (F F' : Nat → Prop) (r : Nat) (G G' : Nat → Prop) (s' : DS) : Prop where
 pair : Pair w d F' r G' s'
 newF : ∀ k, F' k → F k ∨ w0.heap.size ≤ k
 newG : ∀ k, G' k → G k ∨ w0.heap.size ≤ k
 keep : Keep (fun k => F k ∨ G k) w0 w
theorem Half.full {w0 w1 w2 : World} {d r : Nat} {F F' G : Nat → Prop} {s : DS} {x : Int × DS} {e : Ending} (h : Half w0 w1 d F F' r G s x.2) (h6 : DrTo w1 r G x e w2) : e = .returned (.int .i64 x.1) ∧ ∃ G', Did2 w0 w2 d F F' r G G' x.2 := by
 obtain ⟨he, G', h1, h2, h3⟩ := h6
 refine ⟨he, G', ⟨h.dk.kept h3 h.off, h1, fun k hf hg => (h2 k hg).elim (h.off k hf) (fun h' => by have := h.dk.lt k hf; omega)⟩, h.new, fun k hg => (h2 k hg).imp id (Nat.le_trans h.keep.size), ?_⟩
 exact (h.keep.more (fun _ h => .inl h)).trans (h3.more (fun _ h => .inr h))
theorem Did2.kept {w0 w w' : World} {d r : Nat} {F F' G G' R : Nat → Prop} {s' : DS} (h : Did2 w0 w d F F' r G G' s') (hk : Keep R w w') (hr : ∀ k, R k → w0.heap.size ≤ k ∧ ¬ F' k ∧ ¬ G' k) : Did2 w0 w' d F F' r G G' s' :=
 ⟨⟨h.pair.dk.kept hk (fun k hf h' => (hr k h').2.1 hf), h.pair.dr.kept hk (fun k hf h' => (hr k h').2.2 hf), h.pair.off⟩, h.newF, h.newG, h.keep.new (hk.more (fun k h' => .inr (hr k h').1))⟩
theorem Did2.to {w0 w w' : World} {d r : Nat} {F F' G G' : Nat → Prop} {s' : DS} (h : Did2 w0 w d F F' r G G' s') (hb : Below w.heap.size w w') : Did2 w0 w' d F F' r G G' s' := h.kept (R := fun _ => False) (Keep.of_below hb) (fun _ h => h.elim)
theorem Did2.after {w w0 w1 : World} {d r : Nat} {F F' G G' : Nat → Prop} {s' : DS} (hb : Below w.heap.size w w0) (h : Did2 w0 w1 d F F' r G G' s') : Did2 w w1 d F F' r G G' s' :=
 ⟨h.pair, fun k hk => (h.newF k hk).imp id (Nat.le_trans hb.size), fun k hk => (h.newG k hk).imp id (Nat.le_trans hb.size), (Keep.of_below hb).trans h.keep⟩
theorem Pair.did {w : World} {d r : Nat} {F G : Nat → Prop} {s : DS} (h : Pair w d F r G s) : Did2 w w d F F r G G s := ⟨h, fun _ h => .inl h, fun _ h => .inl h, Keep.refl _ _⟩
def PairTo (w : World) (d : Nat) (F : Nat → Prop) (r : Nat) (G : Nat → Prop) (e : Ending) (w' : World) : Prop :=
 e = .returned (.bool true) ∧ ∃ F' G' s', Did2 w w' d F F' r G G' s'
theorem own_from {w : World} {B : Nat} {T : TypeId} {v : Value} {n : Nat} {xs : List Value} (h : w.ownsRow B T 1 v n xs) {b : Nat} (e : v.ownBlock = some b) : B ≤ b ∧ b < w.heap.size := by
 rcases h.2 with h | ⟨g, cap, cur, e', hg, hr, _⟩
 ·rw [h.1] at e; cases e
 ·rw [e'] at e
  simp only [Value.ownBlock, Option.some.injEq] at e
  subst e
  exact ⟨hg, heap_at_lt hr⟩
theorem own_keptF {R : Nat → Prop} {w w' : World} {B : Nat} {T : TypeId} {v : Value} {n : Nat} {xs : List Value} (h : w.ownsRow B T 1 v n xs) (hk : Keep R w w') (hr : ∀ k, R k → k < B) : w'.ownsRow B T 1 v n xs :=
 own_kept h hk fun b e hf => by
  have := (own_from h e).1
  have := hr b hf
  omega
theorem own_offP {w : World} {B : Nat} {T : TypeId} {A : Option Addr} {n c : Nat} {xs : List Value} (h : w.ownsRow B T 1 (.slice A n c) n xs) {F : Nat → Prop} (hf : ∀ k, F k → k < B) : Off A n F := fun hn b o e hb => by
 obtain ⟨g, hg, hB⟩ := own_head h hn
 rw [e] at hg
 injection hg with hg; injection hg with hg _
 have := hf b hb
 omega
end
end Go.Proofs.YtffdjnhhmfpkgaaGreat