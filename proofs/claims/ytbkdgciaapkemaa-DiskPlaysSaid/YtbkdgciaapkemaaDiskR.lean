/- The document's disk (citadelref06): where it lies (DrAt), and what only looks at it. -/
import Derived.Test.YtbkdgciaapkemaaDiskA
namespace Go.Proofs.Ytbkdgciaapkemaa
open Go.RowKit
set_option linter.unusedVariables false
set_option linter.unusedSimpArgs false

/-- A row of bytes of the disk's. -/
def DrSl (w : World) (r lb : Nat) (F : Nat → Prop) (v : Value) (bs : List UInt8) : Prop :=
  ∃ b o c, v = .slice (some ⟨b, o, none⟩) 64 c ∧ Rd w w.heap.size (some ⟨b, o, none⟩) 64 bs ∧ F b ∧ b ≠ r ∧ b ≠ lb
def DrSec (w : World) (r lb : Nat) (F : Nat → Prop) (p : Value × Value) (s : Sec) : Prop :=
  DrSl w r lb F p.1 s.1 ∧ (s.2 = none → p.2 = .slice none 0 0) ∧ ∀ c, s.2 = some c → DrSl w r lb F p.2 c
def vAt (vs : List (Value × Value)) (i : Nat) : Value × Value := vs.getD i (undef, undef)
structure DrP (w : World) (r lb cap : Nat) (vs : List (Value × Value)) (A : Option Addr) (m c : Nat) (F : Nat → Prop) (s : DS) : Prop where
  obj : w.heap[r]? = some (.cells #[.slice (some ⟨lb, 0, none⟩) s.L.length cap, .bool (!s.up), .int .i64 (s.left : Int), .slice A m c] 68 (0, 0))
  len : vs.length = s.L.length
  row : ∃ cur, w.heap[lb]? = some (.cells cur 70 (0, 0)) ∧ ∀ i, i < s.L.length → cur[i * 2]? = some (vAt vs i).1 ∧ cur[i * 2 + 1]? = some (vAt vs i).2
  sec : ∀ i, i < s.L.length → DrSec w r lb F (vAt vs i) (secAt s.L i)
  stay : Rd w w.heap.size A m s.stay ∧ m ≤ 140737488355328 ∧ m ≤ c ∧ c ≤ 9223372036854775807
  soff : ∀ b o, 0 < m → A = some ⟨b, o, none⟩ → F b ∧ b ≠ r ∧ b ≠ lb
  fr : F r
  fl : F lb
  rl : r ≠ lb
  lt : ∀ k, F k → k < w.heap.size
  cap : s.L.length ≤ cap ∧ cap ≤ 9223372036854775807
  ok : s.ok
def DrAt (w : World) (r : Nat) (F : Nat → Prop) (s : DS) : Prop := ∃ lb cap vs A m c, DrP w r lb cap vs A m c F s
theorem DrSl.block {w w' : World} {r lb : Nat} {F : Nat → Prop} {v : Value} {bs : List UInt8} (h : DrSl w r lb F v bs) (hs : w.heap.size ≤ w'.heap.size) (hb : ∀ k, F k → k ≠ r → k ≠ lb → w'.heap[k]? = w.heap[k]?) : DrSl w' r lb F v bs := by
  obtain ⟨b, o, c, e, hr, hf, n1, n2⟩ := h
  refine ⟨b, o, c, e, ⟨hr.1, fun hn => ?_⟩, hf, n1, n2⟩
  obtain ⟨b', o', e', hlt, hc⟩ := hr.2 hn
  injection e' with e'; injection e' with e1 e2
  subst e1; subst e2
  exact ⟨b, o, rfl, by omega, fun j hj => (World.cell?_of_block (hb b hf n1 n2)).trans (hc j hj)⟩
theorem DrSec.block {w w' : World} {r lb : Nat} {F : Nat → Prop} {p : Value × Value} {s : Sec} (h : DrSec w r lb F p s) (hs : w.heap.size ≤ w'.heap.size) (hb : ∀ k, F k → k ≠ r → k ≠ lb → w'.heap[k]? = w.heap[k]?) : DrSec w' r lb F p s :=
  ⟨h.1.block hs hb, h.2.1, fun c hc => (h.2.2 c hc).block hs hb⟩
theorem DrSl.more {w : World} {r lb : Nat} {F G : Nat → Prop} {v : Value} {bs : List UInt8} (h : DrSl w r lb F v bs) (hg : ∀ k, F k → G k) : DrSl w r lb G v bs := by
  obtain ⟨b, o, c, e, hr, hf, n1, n2⟩ := h
  exact ⟨b, o, c, e, hr, hg _ hf, n1, n2⟩
theorem DrSec.more {w : World} {r lb : Nat} {F G : Nat → Prop} {p : Value × Value} {s : Sec} (h : DrSec w r lb F p s) (hg : ∀ k, F k → G k) : DrSec w r lb G p s :=
  ⟨h.1.more hg, h.2.1, fun c hc => (h.2.2 c hc).more hg⟩
theorem rd_block {w w' : World} {A : Option Addr} {m : Nat} {bs : List UInt8} (h : Rd w w.heap.size A m bs) (hs : w.heap.size ≤ w'.heap.size) (hb : ∀ b o, 0 < m → A = some ⟨b, o, none⟩ → w'.heap[b]? = w.heap[b]?) : Rd w' w'.heap.size A m bs :=
  ⟨h.1, fun hn => by
    obtain ⟨b, o, e, hlt, hc⟩ := h.2 hn
    exact ⟨b, o, e, by omega, fun j hj => (World.cell?_of_block (hb b o hn e)).trans (hc j hj)⟩⟩
theorem DrP.kept {R : Nat → Prop} {w w' : World} {r lb cap : Nat} {vs : List (Value × Value)} {A : Option Addr} {m c : Nat} {F : Nat → Prop} {s : DS} (h : DrP w r lb cap vs A m c F s) (hk : Keep R w w') (hn : ∀ k, F k → ¬ R k) : DrP w' r lb cap vs A m c F s := by
  have hb : ∀ k, F k → w'.heap[k]? = w.heap[k]? := fun k hf => hk.block k (h.lt k hf) (hn k hf)
  refine ⟨(hb r h.fr).trans h.obj, h.len, ?_, fun i hi => (h.sec i hi).block hk.size (fun k hf _ _ => hb k hf), ⟨rd_block h.stay.1 hk.size (fun b o hm e => hb b (h.soff b o hm e).1), h.stay.2⟩, h.soff, h.fr, h.fl, h.rl, fun k hf => Nat.lt_of_lt_of_le (h.lt k hf) hk.size, h.cap, h.ok⟩
  obtain ⟨cur, h1, h2⟩ := h.row
  exact ⟨cur, (hb lb h.fl).trans h1, h2⟩
theorem DrAt.kept {R : Nat → Prop} {w w' : World} {r : Nat} {F : Nat → Prop} {s : DS} (h : DrAt w r F s) (hk : Keep R w w') (hn : ∀ k, F k → ¬ R k) : DrAt w' r F s := by
  obtain ⟨lb, cap, vs, A, m, c, h⟩ := h
  exact ⟨lb, cap, vs, A, m, c, h.kept hk hn⟩
theorem DrP.to {w w' : World} {r lb cap : Nat} {vs : List (Value × Value)} {A : Option Addr} {m c : Nat} {F : Nat → Prop} {s : DS} (h : DrP w r lb cap vs A m c F s) (hb : Below w.heap.size w w') : DrP w' r lb cap vs A m c F s := h.kept (R := fun _ => False) (Keep.of_below hb) (fun _ _ h => h)
theorem DrAt.to {w w' : World} {r : Nat} {F : Nat → Prop} {s : DS} (h : DrAt w r F s) (hb : Below w.heap.size w w') : DrAt w' r F s := h.kept (R := fun _ => False) (Keep.of_below hb) (fun _ _ h => h)
theorem DrAt.lt {w : World} {r : Nat} {F : Nat → Prop} {s : DS} (h : DrAt w r F s) : ∀ k, F k → k < w.heap.size := by
  obtain ⟨lb, cap, vs, A, m, c, h⟩ := h
  exact h.lt
theorem DrAt.fr {w : World} {r : Nat} {F : Nat → Prop} {s : DS} (h : DrAt w r F s) : F r := by
  obtain ⟨lb, cap, vs, A, m, c, h⟩ := h
  exact h.fr
theorem DrAt.ok {w : World} {r : Nat} {F : Nat → Prop} {s : DS} (h : DrAt w r F s) : s.ok := by
  obtain ⟨lb, cap, vs, A, m, c, h⟩ := h
  exact h.ok
theorem drCell {w : World} {r : Nat} {a b c d : Value} {T : TypeId} (h : w.heap[r]? = some (.cells #[a, b, c, d] T (0, 0))) :
    w.cell? ⟨r, 0, none⟩ = some a ∧ w.cell? ⟨r, 1, none⟩ = some b ∧ w.cell? ⟨r, 2, none⟩ = some c ∧ w.cell? ⟨r, 3, none⟩ = some d ∧
    w.frozen? ⟨r, 0, none⟩ = false ∧ w.frozen? ⟨r, 1, none⟩ = false ∧ w.frozen? ⟨r, 2, none⟩ = false ∧ w.frozen? ⟨r, 3, none⟩ = false := by
  refine ⟨?_, ?_, ?_, ?_, ?_, ?_, ?_, ?_⟩ <;> simp [World.cell?, World.frozen?, h]
theorem DrP.cell {w : World} {r lb cap : Nat} {vs : List (Value × Value)} {A : Option Addr} {m c : Nat} {F : Nat → Prop} {s : DS} (h : DrP w r lb cap vs A m c F s) {i : Nat} (hi : i < s.L.length) :
    w.cell? ⟨lb, i * 2, none⟩ = some (vAt vs i).1 ∧ w.cell? ⟨lb, i * 2 + 1, none⟩ = some (vAt vs i).2 ∧ w.frozen? ⟨lb, i * 2, none⟩ = false ∧ w.frozen? ⟨lb, i * 2 + 1, none⟩ = false := by
  obtain ⟨cur, h1, h2⟩ := h.row
  obtain ⟨h3, h4⟩ := h2 i hi
  exact ⟨by rw [cell_of_row _ _ _ _ _ _ h1]; exact h3, by rw [cell_of_row _ _ _ _ _ _ h1]; exact h4, by simp [World.frozen?, h1], by simp [World.frozen?, h1]⟩

set_option maxRecDepth 1000000 in
set_option maxHeartbeats 1000000 in
theorem qRead (r : Nat) (F : Nat → Prop) (s : DS) (i : Int) (w : World) (h : DrAt w r F s) : Calls Try.prog 31 #[.pointer (some ⟨r, 0, none⟩), .int .i64 i] w fun e w' =>
    ∃ A n c, e = .returned (.tuple #[.slice A n c, .int .i64 (s.read i).2]) ∧ w'.ownsRow w.heap.size 5 1 (.slice A n c) n ((s.read i).1.map bval) ∧ Below w.heap.size w w' := by
  obtain ⟨lb, cap, vs, A, m, c, h⟩ := h
  obtain ⟨c0, c1, c2, c3, _, _, _, _⟩ := drCell h.obj
  have H := Lib.hid h
  have HE := Lib.hid (rfl : s.read i = s.read i)
  clear h c2 c3
  go_enter Try.func31, Try.ntmps31
  cases hu : s.up
  · have HU := Lib.hid hu
    rw [hu] at c1
    clear hu
    go_wp2_with fail
    go_ret2
    rw [DS.read, HU.out, if_pos rfl]
    exact ⟨none, 0, 0, rfl, ⟨rfl, .inl ⟨rfl, rfl⟩⟩, Below.refl _ _⟩
  have HU := Lib.hid hu
  rw [hu] at c1
  clear hu
  by_cases h0 : i < 0
  · have HH : Hid (s.has i = false) := by show _ = _; simp only [DS.has, decide_eq_false_iff_not]; omega
    go_wp2_with fail
    go_ret2
    rw [DS.read, HU.out, if_neg (by decide), HH.out, if_pos rfl]
    exact ⟨none, 0, 0, rfl, ⟨rfl, .inl ⟨rfl, rfl⟩⟩, Below.refl _ _⟩
  by_cases h1 : i ≥ (s.L.length : Int)
  · have HH : Hid (s.has i = false) := by show _ = _; simp only [DS.has, decide_eq_false_iff_not]; omega
    go_wp2_with fail
    go_ret2
    rw [DS.read, HU.out, if_neg (by decide), HH.out, if_pos rfl]
    exact ⟨none, 0, 0, rfl, ⟨rfl, .inl ⟨rfl, rfl⟩⟩, Below.refl _ _⟩
  have HH : Hid (s.has i = true) := by show _ = _; simp only [DS.has, decide_eq_true_eq]; omega
  obtain ⟨k, rfl⟩ : ∃ k : Nat, i = (k : Int) := ⟨i.toNat, by omega⟩
  have hk : k < s.L.length := by omega
  have hk1 : (k : Int) < (s.L.length : Int) := by omega
  obtain ⟨d0, d1, _, _⟩ := H.out.cell hk
  obtain ⟨e0, e1, e2⟩ := H.out.sec k hk
  have q := u8_some
  have HER : Hid (s.read (k : Int) = (Sec.now (secAt s.L k), 0)) := by
    show _ = _
    rw [DS.read, HU.out, if_neg (by decide), HH.out, if_neg (by decide), Int.toNat_natCast]
  cases hc : (secAt s.L k).2 with
  | none =>
    have HC := Lib.hid hc
    rw [e1 hc] at d1
    obtain ⟨b, o, cc, ev, hr, _⟩ := e0
    rw [ev] at d0
    have R := Lib.hid hr
    clear e1 e2 hc hr ev HE
    generalize hn : s.L.length = n at *
    have HN := Lib.hid hn
    clear hn
    go_wp2_with fail
    refine (refCopy (some ⟨b, o, none⟩) 64 cc _ w R.out (by decide)).mono ?_
    rintro e w1 ⟨A1, n1, c1', rfl, hown, hb⟩
    have O1 := Lib.hid hown
    have B1 := Lib.hid hb
    clear hown hb
    go_wp2_with fail
    go_ret2
    rw [HER.out]
    have e : Sec.now (secAt s.L k) = (secAt s.L k).1 := by unfold Sec.now; rw [HC.out]; rfl
    rw [e]
    exact ⟨_, _, _, rfl, O1.out, B1.out⟩
  | some bs =>
    have HC := Lib.hid hc
    obtain ⟨b, o, cc, ev, hr, _⟩ := e2 bs hc
    rw [ev] at d1
    have R := Lib.hid hr
    clear e0 e1 e2 hc hr ev HE d0
    generalize hn : s.L.length = n at *
    have HN := Lib.hid hn
    clear hn
    go_wp2_with fail
    refine (refCopy (some ⟨b, o, none⟩) 64 cc _ w R.out (by decide)).mono ?_
    rintro e w1 ⟨A1, n1, c1', rfl, hown, hb⟩
    have O1 := Lib.hid hown
    have B1 := Lib.hid hb
    clear hown hb
    go_wp2_with fail
    go_ret2
    rw [HER.out]
    have e : Sec.now (secAt s.L k) = bs := by unfold Sec.now; rw [HC.out]; rfl
    rw [e]
    exact ⟨_, _, _, rfl, O1.out, B1.out⟩
end Go.Proofs.Ytbkdgciaapkemaa
