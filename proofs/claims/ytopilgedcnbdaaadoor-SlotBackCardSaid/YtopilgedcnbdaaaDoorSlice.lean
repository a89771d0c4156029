/- Slicing of a byte slice that reads, whatever its address: a[:k], a[k:], a[l:h]: the value is some slice that reads as that part. -/
import Derived.Test.YtopilgedcnbdaaaDoorTz
import Derived.Test.YtopilgedcnbdaaaDoorKit
namespace Go.Proofs.YtopilgedcnbdaaaDoor
set_option maxRecDepth 1000000
set_option maxHeartbeats 8000000
open Go.RowKit
set_option linter.unusedVariables false
theorem Rd.drew' {w : World} {n : Nat} {A : Option Addr} {bs : List UInt8} (h : Rd w w.heap.size A n bs) : Rd w.drew w.drew.heap.size A n bs := h
theorem Rd.setOther {w : World} {B n b o : Nat} {bs : List UInt8} (h : Rd w B (some ⟨b, o, none⟩) n bs) (a : Addr) (u : Value) (hne : b ≠ a.block) : Rd (w.setCell a u) B (some ⟨b, o, none⟩) n bs := by
 refine ⟨h.1, fun hn => ?_⟩
 obtain ⟨b', o', e, hb, hc⟩ := h.2 hn
 refine ⟨b', o', e, hb, fun j hj => ?_⟩
 rw [← hc j hj]
 injection e with e; injection e with e1 e2
 exact World.cell?_of_block (Below.heap_setCell w a u b' (by rw [← e1]; exact hne))
theorem Rd.blk {w : World} {B n b o : Nat} {bs : List UInt8} (h : Rd w B (some ⟨b, o, none⟩) n bs) (hn : 0 < n) : b < B := by
 obtain ⟨b', o', e, hb, _⟩ := h.2 hn
 injection e with e; injection e with e1 e2
 omega
theorem Rd.at {w : World} {B n b o : Nat} {bs : List UInt8} (h : Rd w B (some ⟨b, o, none⟩) n bs) {j : Nat} (hj : j < n) : w.cell? ⟨b, o + j, none⟩ = some (.int .u8 (nth bs j : Int)) := by
 obtain ⟨b', o', e, hb, hc⟩ := h.2 (by omega)
 injection e with e; injection e with e1 e2
 subst e1; subst e2
 exact hc j hj
theorem addr_add_zero (a : Addr) : a.add 0 = a := by
 unfold Addr.add; split <;> simp_all
theorem u8_size {P : Program} {T U : TypeId} (L : U8 P T U) (w : World) : (sizeOf U).run P w = .ok 1 w := by
 obtain ⟨i0, hi, hz0, hz1, hz2⟩ := info_parts L.info
 simp [sizeOf, typeInfo, hi, hz1]
theorem u8_elem {P : Program} {T U : TypeId} (L : U8 P T U) : P.elem T = U := by
 simp [Program.elem, L.ul]
theorem slice_lh {P : Program} {T U : TypeId} (L : U8 P T U) (A : Option Addr) {n c l h : Nat} (h1 : l ≤ h) (h2 : h ≤ n) (hc : n ≤ c) :
  ∃ A' c', (∀ (k k' : IntKind) (w : World), (Instr.slice T (.slice A n c) (some (.int k (l : Int))) (some (.int k' (h : Int))) none).run P w = .ok (.slice A' (h - l) c') w) ∧
   (∀ (w : World) (B : Nat) (bs : List UInt8), Rd w B A n bs → Rd w B A' (h - l) ((bs.take h).drop l)) ∧ h - l ≤ c' ∧ c' ≤ c := by
 refine ⟨if c = l then A else A.map (·.add l), c - l, fun k k' w => ?_, fun w B bs hr => ?_, by omega, by omega⟩
 ·rw [run_slice_lh (ht := by rw [u8_elem L]; exact L.ul) (kl := k) (kh := k') (l := (l : Int)) (h := (h : Int)) (h0 := by omega) (h1 := by omega) (h2 := by omega), u8_elem L, u8_size L]
  simp [Result.andThen, sliced]
 ·refine ⟨by simp [hr.1]; omega, fun h0 => ?_⟩
  obtain ⟨b, o, rfl, hb, _⟩ := hr.2 (by omega)
  have := hr.cut (l := l) (k := h) h1 h2
  obtain ⟨b', o', e, hb', hc'⟩ := this.2 h0
  refine ⟨b', o', ?_, hb', hc'⟩
  rw [if_neg (by omega), ← e]
  simp [Addr.add]
theorem slice_h {P : Program} {T U : TypeId} (L : U8 P T U) (A : Option Addr) {n c h : Nat} (h2 : h ≤ n) (hc : n ≤ c) :
  ∀ (k' : IntKind) (w : World), (Instr.slice T (.slice A n c) none (some (.int k' (h : Int))) none).run P w = .ok (.slice A h c) w := by
 intro k' w
 rw [run_slice_h (ht := by rw [u8_elem L]; exact L.ul) (kh := k') (h := (h : Int)) (h0 := by omega) (h2 := by omega), u8_elem L, u8_size L]
 simp only [Result.andThen, sliced]
 congr 1
 cases A with
 | none => simp
 | some a => simp [addr_add_zero]
theorem slice_l {P : Program} {T U : TypeId} (L : U8 P T U) (A : Option Addr) {n c l : Nat} (h2 : l ≤ n) (hc : n ≤ c) :
  ∃ A' c', (∀ (k : IntKind) (w : World), (Instr.slice T (.slice A n c) (some (.int k (l : Int))) none none).run P w = .ok (.slice A' (n - l) c') w) ∧
   (∀ (w : World) (B : Nat) (bs : List UInt8), Rd w B A n bs → Rd w B A' (n - l) (bs.drop l)) ∧ n - l ≤ c' ∧ c' ≤ c := by
 refine ⟨if c = l then A else A.map (·.add l), c - l, fun k w => ?_, fun w B bs hr => ?_, by omega, by omega⟩
 ·rw [run_slice_l (ht := by rw [u8_elem L]; exact L.ul) (kl := k) (l := (l : Int)) (h0 := by omega) (h1 := by omega), u8_elem L, u8_size L]
  simp [Result.andThen, sliced]
 ·refine ⟨by simp [hr.1], fun h0 => ?_⟩
  obtain ⟨b, o, rfl, hb, _⟩ := hr.2 (by omega)
  have := hr.cut (l := l) (k := n) h2 (Nat.le_refl _)
  rw [List.take_of_length_le (by rw [hr.1]; exact Nat.le_refl _)] at this
  obtain ⟨b', o', e, hb', hc'⟩ := this.2 h0
  refine ⟨b', o', ?_, hb', hc'⟩
  rw [if_neg (by omega), ← e]
  simp [Addr.add]
end Go.Proofs.YtopilgedcnbdaaaDoor