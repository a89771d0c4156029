/- What the laws of layer 6 share, further: rows that were read of the law's own disk, one a sector. -/
import Derived.Test.YtbkdgciaapkemaaDiskLd
namespace Go.Proofs.Ytbkdgciaapkemaa
open Go.RowKit
set_option linter.unusedVariables false
set_option linter.unusedSimpArgs false

theorem Mine.kept {w wr w' : World} {d : Nat} {F R : Nat → Prop} {s : DS} (h : Mine w wr d F s) (hk : Keep R wr w') (hn : ∀ k, R k → w.heap.size ≤ k ∧ ¬ F k) : Mine w w' d F s :=
  ⟨h.at_.kept hk (fun k hf hr => (hn k hr).2 hf), h.lo, hk.below h.bel h.bel.size (fun k hr => (hn k hr).1)⟩
/-- k rows, the j-th is f j; all of their blocks are in G. -/
def RowsN (w : World) (B k : Nat) (v : Value) (f : Nat → List UInt8) (G : Nat → Prop) : Prop := RowsG w B v ((List.range k).map f) G ∧ ∀ j, G j → B ≤ j
theorem RowsN.nil (w : World) (B : Nat) (f : Nat → List UInt8) : RowsN w B 0 (.slice none 0 0) f (fun _ => False) := ⟨RowsG.nil w B, fun _ h => h.elim⟩
theorem RowsN.kept {R : Nat → Prop} {w w' : World} {B k : Nat} {v : Value} {f : Nat → List UInt8} {G : Nat → Prop} (h : RowsN w B k v f G) (hk : Keep R w w') (hn : ∀ k, G k → ¬ R k) : RowsN w' B k v f G := ⟨h.1.kept hk hn, h.2⟩
theorem RowsN.to {w w' : World} {B k : Nat} {v : Value} {f : Nat → List UInt8} {G : Nat → Prop} (h : RowsN w B k v f G) (hb : Below w.heap.size w w') : RowsN w' B k v f G := ⟨h.1.to hb, h.2⟩
theorem RowsN.lt {w : World} {B k : Nat} {v : Value} {f : Nat → List UInt8} {G : Nat → Prop} (h : RowsN w B k v f G) : ∀ k, G k → k < w.heap.size := h.1.lt
theorem RowsN.at_ {w : World} {B k : Nat} {v : Value} {f : Nat → List UInt8} {G : Nat → Prop} (h : RowsN w B k v f G) {j : Nat} (hj : j < k) :
    ∃ g cap A n c, v = .slice (some ⟨g, 0, none⟩) k cap ∧ w.cell? ⟨g, j, none⟩ = some (.slice A n c) ∧ Rd w w.heap.size A n (f j) := by
  have hl : ((List.range k).map f).length = k := by simp
  obtain ⟨g, cap, A, n, c, h1, h2, h3, _⟩ := h.1.at_ (j := j) (by rw [hl]; exact hj)
  rw [hl] at h1
  have e : ((List.range k).map f).getD j [] = f j := by simp [List.getD, hj]
  rw [e] at h3
  exact ⟨g, cap, A, n, c, h1, h2, h3⟩
/-- 'rows = append(rows, row)', the row just made. -/
theorem wpList_pushN {ops : Array Oper} {rest : List Oper} {o : Oper} {a : Act} {Q : Exit → Act → World → Prop} (hgd : o.guard = none) (s x : Operand)
    (ho : o.op = .call { callee := .builtin .append, args := #[s, x], argTypes := #[58, 58] }) {B k n c : Nat} {A : Option Addr} {w0 wr : World} {v : Value} {f : Nat → List UInt8} {G : Nat → Prop} {T : TypeId} (hs : a.eval s = v)
    (hx : a.eval x = .slice (some ⟨wr.heap.size, 0, none⟩) 1 1) (h0 : RowsN w0 B k v f G) (hb : Below w0.heap.size w0 wr) (hr : wr.ownsRow w0.heap.size T 1 (.slice A n c) n ((f k).map bval))
    (hB : B ≤ w0.heap.size) (hk : k < 1000)
    (h : ∀ v' w1 G', RowsN w1 B (k + 1) v' f G' → (∀ j, G' j → G j ∨ w0.heap.size ≤ j) → Keep G wr w1 → wpList Try.prog ops Q rest (a.put o.dst v') w1) : wpList Try.prog ops Q (o :: rest) a (wr.alloc (.cells #[.slice A n c] 32)) := by
  have hc := own_cap hr
  have hoff := own_off hr h0.lt
  have hsz := hb.size
  refine wpList_pushG' hgd s x ho hs hx (h0.to hb).1 (Rd.of_own hr) hc.1 hc.2 hoff (by omega) (by simp only [List.length_map, List.length_range]; omega) fun v' w1 h1 hkp => ?_
  have e : (List.range k).map f ++ [f k] = (List.range (k + 1)).map f := by rw [List.range_succ, List.map_append]; rfl
  rw [e] at h1
  have hG : ∀ j, (G j ∨ (0 < n ∧ ∃ o, A = some ⟨j, o, none⟩) ∨ (wr.heap.size ≤ j ∧ j < w1.heap.size)) → G j ∨ w0.heap.size ≤ j := fun j hj => by
    rcases hj with hj | ⟨h0', o, e⟩ | hj
    · exact .inl hj
    · obtain ⟨g, hg, hl⟩ := own_head hr h0'
      rw [e] at hg
      injection hg with hg; injection hg with hg _
      exact .inr (by omega)
    · exact .inr (by omega)
  exact h v' w1 _ ⟨h1, fun j hj => (hG j hj).elim (h0.2 j) (fun h => by omega)⟩ hG hkp
end Go.Proofs.Ytbkdgciaapkemaa
