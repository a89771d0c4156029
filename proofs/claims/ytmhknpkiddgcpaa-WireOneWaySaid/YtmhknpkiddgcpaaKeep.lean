/- What a call leaves that writes one block of an object (World.grownBy): how facts on other blocks go on. No program is named. -/
import Derived.Test.YtmhknpkiddgcpaaHmacKit
namespace Go.Proofs.Ytmhknpkiddgcpaa
open Go.RowKit
set_option linter.unusedVariables false

/-- All is as it was, but for new blocks and the blocks of R. -/
structure Keep (R : Nat → Prop) (w w' : World) : Prop where
  os : w'.os = w.os
  tape : w'.tape = w.tape
  output : w'.output = w.output
  size : w.heap.size ≤ w'.heap.size
  block : ∀ k, k < w.heap.size → ¬ R k → w'.heap[k]? = w.heap[k]?
theorem Keep.refl (R : Nat → Prop) (w : World) : Keep R w w := ⟨rfl, rfl, rfl, Nat.le_refl _, fun _ _ _ => rfl⟩
theorem Keep.trans {R : Nat → Prop} {a b c : World} (h : Keep R a b) (h' : Keep R b c) : Keep R a c :=
  ⟨h'.os.trans h.os, h'.tape.trans h.tape, h'.output.trans h.output, Nat.le_trans h.size h'.size, fun k hk hr => (h'.block k (Nat.lt_of_lt_of_le hk h.size) hr).trans (h.block k hk hr)⟩
theorem Keep.of_below {R : Nat → Prop} {w w' : World} (h : Below w.heap.size w w') : Keep R w w' := ⟨h.os, h.tape, h.output, h.size, fun k hk _ => h.block k hk⟩
theorem Keep.more {R R' : Nat → Prop} {w w' : World} (h : Keep R w w') (hr : ∀ k, R k → R' k) : Keep R' w w' := ⟨h.os, h.tape, h.output, h.size, fun k hk hn => h.block k hk (fun h => hn (hr k h))⟩
/-- What it wrote lies in new memory. -/
theorem Keep.below {R : Nat → Prop} {B : Nat} {a w w' : World} (hb : Below B a w) (h : Keep R w w') (hB : B ≤ w.heap.size) (hr : ∀ k, R k → B ≤ k) : Below B a w' :=
  hb.trans ⟨h.os, h.tape, h.output, h.size, fun k hk => h.block k (Nat.lt_of_lt_of_le hk hB) (fun hk' => by have := hr k hk'; omega)⟩
/-- New blocks may be written too. -/
theorem Keep.new {R : Nat → Prop} {a w w' : World} (h : Keep R a w) (h' : Keep (fun k => R k ∨ a.heap.size ≤ k) w w') : Keep R a w' :=
  ⟨h'.os.trans h.os, h'.tape.trans h.tape, h'.output.trans h.output, Nat.le_trans h.size h'.size, fun k hk hr =>
    (h'.block k (Nat.lt_of_lt_of_le hk h.size) (fun h => by rcases h with h | h; exact hr h; omega)).trans (h.block k hk hr)⟩
theorem Keep.setCell {R : Nat → Prop} {a w : World} (h : Keep R a w) (p : Addr) (v : Value) (hr : R p.block) : Keep R a (w.setCell p v) :=
  ⟨h.os, h.tape, h.output, by simpa using h.size, fun k hk hn => (Below.heap_setCell w p v k (by intro e; subst e; exact hn hr)).trans (h.block k hk hn)⟩
theorem Keep.alloc {R : Nat → Prop} {a w : World} (h : Keep R a w) (o : Obj) : Keep R a (w.alloc o) := h.trans (Keep.of_below ((Below.refl _ _).alloc (Nat.le_refl _) o))
theorem Keep.drewN {R : Nat → Prop} {a w : World} (h : Keep R a w) (n : Nat) : Keep R a (w.drewN n) := ⟨h.os, h.tape, h.output, h.size, h.block⟩
theorem Keep.drew {R : Nat → Prop} {a w : World} (h : Keep R a w) : Keep R a w.drew := ⟨h.os, h.tape, h.output, h.size, h.block⟩
theorem Keep.cell {R : Nat → Prop} {w w' : World} (h : Keep R w w') {a : Addr} (hl : a.block < w.heap.size) (hn : ¬ R a.block) : w'.cell? a = w.cell? a := World.cell?_of_block (h.block _ hl hn)
/-- The block of a slice value, if it holds anything. -/
def Off (A : Option Addr) (n : Nat) (R : Nat → Prop) : Prop := 0 < n → ∀ b o, A = some ⟨b, o, none⟩ → ¬ R b
theorem Rd.kept {R : Nat → Prop} {w w' : World} {n : Nat} {A : Option Addr} {bs : List UInt8} (h : Rd w w.heap.size A n bs) (hk : Keep R w w') (ho : Off A n R) : Rd w' w'.heap.size A n bs :=
  ⟨h.1, fun hn => by
    obtain ⟨b, o, e, hb, hc⟩ := h.2 hn
    exact ⟨b, o, e, Nat.lt_of_lt_of_le hb hk.size, fun j hj => by rw [← hc j hj]; exact hk.cell hb (ho hn b o e)⟩⟩
theorem OwR.kept {R : Nat → Prop} {w w' : World} {B n : Nat} {A : Option Addr} {bs : List UInt8} (h : OwR w B A n bs) (hk : Keep R w w') (ho : Off A n R) : OwR w' B A n bs :=
  ⟨h.1.kept hk ho, fun hn => by
    obtain ⟨b, o, e, hB, hf⟩ := h.2 hn
    obtain ⟨b', o', e', hlt, _⟩ := h.1.2 hn
    rw [e] at e'
    injection e' with e'; injection e' with e1 e2
    subst e1
    exact ⟨b, o, e, hB, fun j hj => (World.frozen?_of_block (hk.block _ hlt (ho hn b o e))).trans (hf j hj)⟩⟩
/-- What a slice of the callee's own is apart from: all that was there. -/
theorem OwR.off {w : World} {B n : Nat} {A : Option Addr} {bs : List UInt8} (h : OwR w B A n bs) {R : Nat → Prop} (hr : ∀ k, R k → k < B) : Off A n R := fun hn b o e hb => by
  obtain ⟨b', o', e', hB, _⟩ := h.2 hn
  rw [e] at e'
  injection e' with e'; injection e' with e1 _
  have := hr b hb
  omega
theorem Rd.off {w : World} {n : Nat} {A : Option Addr} {bs : List UInt8} {B : Nat} (h : Rd w B A n bs) {R : Nat → Prop} (hr : ∀ k, R k → B ≤ k) : Off A n R := fun hn b o e hb => by
  obtain ⟨b', o', e', hB, _⟩ := h.2 hn
  rw [e] at e'
  injection e' with e'; injection e' with e1 _
  have := hr b hb
  omega
end Go.Proofs.Ytmhknpkiddgcpaa
