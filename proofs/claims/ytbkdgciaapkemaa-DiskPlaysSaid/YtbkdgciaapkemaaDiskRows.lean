/- A slice of byte slices of the call's own, with the blocks that it lies in (RowsG): appended to, read. -/
import Derived.Test.YtbkdgciaapkemaaKitO
import Derived.Deep.AppendLies
import Derived.Deep.MidRow
namespace Go.Proofs.Ytbkdgciaapkemaa
open Go.RowKit
set_option linter.unusedVariables false

theorem rowsG_info : (Try.prog.info? 32).map (fun i => (i.zero, i.size, i.bytes)) = some (some (.slice none 0 0), 1, 24) := by kernel_rfl
/-- It reads as rows; all of its blocks are in G. -/
def RowsG (w : World) (B : Nat) (v : Value) (rows : List (List UInt8)) (G : Nat → Prop) : Prop :=
  ∃ vs, w.ownsRow B 32 1 v rows.length vs ∧ (∀ b, v.ownBlock = some b → G b) ∧ (∀ k, G k → k < w.heap.size) ∧
    ∀ j, j < rows.length → ∃ A n c, vs[j]? = some (.slice A n c) ∧ Rd w w.heap.size A n (rows.getD j []) ∧ (0 < n → ∀ b o, A = some ⟨b, o, none⟩ → G b ∧ v.ownBlock ≠ some b) ∧ n ≤ c ∧ c ≤ 9223372036854775807
theorem RowsG.nil (w : World) (B : Nat) : RowsG w B (.slice none 0 0) [] (fun _ => False) := ⟨[], ⟨rfl, .inl ⟨rfl, rfl⟩⟩, fun _ h => (by cases h), fun _ h => h.elim, fun _ h => absurd h (Nat.not_lt_zero _)⟩
theorem own_kept {R : Nat → Prop} {w w' : World} {B : Nat} {T : TypeId} {v : Value} {n : Nat} {xs : List Value} (h : w.ownsRow B T 1 v n xs) (hk : Keep R w w') (hn : ∀ b, v.ownBlock = some b → ¬ R b) : w'.ownsRow B T 1 v n xs := by
  refine ⟨h.1, ?_⟩
  rcases h.2 with h | ⟨g, cap, cur, e, hg, hh, h⟩
  · exact .inl h
  · exact .inr ⟨g, cap, cur, e, hg, (hk.block g (heap_at_lt hh) (hn g (by rw [e]; rfl))).trans hh, h⟩
theorem RowsG.kept {R : Nat → Prop} {w w' : World} {B : Nat} {v : Value} {rows : List (List UInt8)} {G : Nat → Prop} (h : RowsG w B v rows G) (hk : Keep R w w') (hn : ∀ k, G k → ¬ R k) : RowsG w' B v rows G := by
  obtain ⟨vs, h1, h2, h3, h4⟩ := h
  refine ⟨vs, own_kept h1 hk (fun b e => hn b (h2 b e)), h2, fun k hg => Nat.lt_of_lt_of_le (h3 k hg) hk.size, fun j hj => ?_⟩
  obtain ⟨A, n, c, e, hr, hb, hc⟩ := h4 j hj
  exact ⟨A, n, c, e, hr.kept hk (fun h0 b o e => hn b (hb h0 b o e).1), hb, hc⟩
theorem RowsG.to {w w' : World} {B : Nat} {v : Value} {rows : List (List UInt8)} {G : Nat → Prop} (h : RowsG w B v rows G) (hb : Below w.heap.size w w') : RowsG w' B v rows G := h.kept (R := fun _ => False) (Keep.of_below hb) (fun _ _ h => h)
theorem RowsG.lt {w : World} {B : Nat} {v : Value} {rows : List (List UInt8)} {G : Nat → Prop} (h : RowsG w B v rows G) : ∀ k, G k → k < w.heap.size := by
  obtain ⟨vs, h1, h2, h3, h4⟩ := h
  exact h3
/-- One of them. -/
theorem RowsG.at_ {w : World} {B : Nat} {v : Value} {rows : List (List UInt8)} {G : Nat → Prop} (h : RowsG w B v rows G) {j : Nat} (hj : j < rows.length) :
    ∃ g cap A n c, v = .slice (some ⟨g, 0, none⟩) rows.length cap ∧ w.cell? ⟨g, j, none⟩ = some (.slice A n c) ∧ Rd w w.heap.size A n (rows.getD j []) ∧ (0 < n → ∀ b o, A = some ⟨b, o, none⟩ → G b) ∧ n ≤ c ∧ c ≤ 9223372036854775807 := by
  obtain ⟨vs, h1, h2, h3, h4⟩ := h
  obtain ⟨A, n, c, e, hr, hb, hc⟩ := h4 j hj
  obtain ⟨A0, c0, rfl⟩ := own_slice h1
  obtain ⟨g, rfl, _⟩ := own_head h1 (by omega)
  have hc' := h1.cells (g := g) rfl j (.slice A n c) e
  rw [Addr.add_mid] at hc'
  rw [Nat.zero_add] at hc'
  exact ⟨g, c0, A, n, c, rfl, hc', hr, fun h0 b o e => (hb h0 b o e).1, hc⟩
theorem RowsG.slice {w : World} {B : Nat} {v : Value} {rows : List (List UInt8)} {G : Nat → Prop} (h : RowsG w B v rows G) : ∃ A c, v = .slice A rows.length c := by
  obtain ⟨vs, h1, _⟩ := h
  exact own_slice h1

/-- 'rows = append(rows, row)'. -/
theorem wpList_pushG' {ops : Array Oper} {rest : List Oper} {o : Oper} {a : Act} {Q : Exit → Act → World → Prop} (hgd : o.guard = none) (s x : Operand)
    (ho : o.op = .call { callee := .builtin .append, args := #[s, x], argTypes := #[58, 58] }) {B n c : Nat} {A : Option Addr} {wr : World} {v : Value} {rows : List (List UInt8)} {row : List UInt8} {G : Nat → Prop} (hs : a.eval s = v)
    (hx : a.eval x = .slice (some ⟨wr.heap.size, 0, none⟩) 1 1) (hown : RowsG wr B v rows G) (hr : Rd wr wr.heap.size A n row) (hc : n ≤ c) (hc' : c ≤ 9223372036854775807) (hne : 0 < n → ∀ b o, A = some ⟨b, o, none⟩ → ¬ G b)
    (hB : B ≤ wr.heap.size) (hk : rows.length + 1 ≤ 1000)
    (h : ∀ v' w1, RowsG w1 B v' (rows ++ [row]) (fun k => G k ∨ (0 < n ∧ ∃ o, A = some ⟨k, o, none⟩) ∨ (wr.heap.size ≤ k ∧ k < w1.heap.size)) → Keep G wr w1 → wpList Try.prog ops Q rest (a.put o.dst v') w1) : wpList Try.prog ops Q (o :: rest) a (wr.alloc (.cells #[.slice A n c] 32)) := by
  obtain ⟨i0, hi, hz0, hz1, hz2⟩ := info_parts rowsG_info
  have hba : Below wr.heap.size wr (wr.alloc (.cells #[.slice A n c] 32)) := (Below.refl _ _).alloc (Nat.le_refl _) _
  obtain ⟨vs, h10, h2, h3, h4⟩ := hown
  have h1 := own_below h10 hba
  have hsz : (wr.alloc (.cells #[.slice A n c] 32)).heap.size = wr.heap.size + 1 := by simp
  refine wpList_plain hgd fun K hK => ?_
  refine wp_append_lies _ s x _ ho B 32 i0 (.slice none 0 0) 1 24 Try.underlying58 hi hz0 hz1 hz2 rfl (by decide) v rows.length _ hs h1 ⟨wr.heap.size, 0, none⟩ 1 1 [.slice A n c] hx rfl (cell_one_new _ _ _) ?_ (by decide) ?_ ?_ (by omega) _ rfl ?_
  · intro u hu; simp at hu; subst hu; rfl
  · unfold maxLen; omega
  · omega
  · intro g cap w1 hown' hgrow hg hg1
    have hkg : Keep (fun b => v.ownBlock = some b) (wr.alloc (.cells #[.slice A n c] 32)) w1 := ⟨hgrow.os, hgrow.tape, hgrow.output, hgrow.size, fun b hb hn => hgrow.block b hb (fun e => hn e.symm)⟩
    have hk0 : Keep (fun b => v.ownBlock = some b) wr w1 := (Keep.of_below hba).trans hkg
    have hlt : ∀ k, G k → k < w1.heap.size := fun k hg => Nat.lt_of_lt_of_le (h3 k hg) hk0.size
    have hown1 : ∀ b, (Value.slice (some ⟨g, 0, none⟩) (rows.length + 1) cap).ownBlock = some b → v.ownBlock = some b ∨ (wr.heap.size ≤ b ∧ b < w1.heap.size) := fun b e => by
      simp only [Value.ownBlock, Option.some.injEq] at e
      subst e
      exact hg.imp id (fun e => ⟨by omega, hg1⟩)
    have hvl : vs.length = rows.length := by simpa using h10.1
    refine hK _ _ (h _ w1 ⟨vs ++ [.slice A n c], by rw [List.length_append]; exact hown', fun b e => ?_, fun k hk => ?_, fun j hj => ?_⟩ (hk0.more (fun b e => h2 b e)))
    · rcases hown1 b e with h | h
      · exact .inl (h2 b h)
      · exact .inr (.inr h)
    · rcases hk with hk | ⟨h0, o', e⟩ | hk
      · exact hlt k hk
      · obtain ⟨b', o'', e', hb', _⟩ := hr.2 h0
        rw [e] at e'
        injection e' with e'; injection e' with e1 _
        have := hk0.size
        omega
      · exact hk.2
    · rw [List.length_append] at hj
      rcases Nat.lt_succ_iff_lt_or_eq.1 hj with hlt' | rfl
      · obtain ⟨A1, n1, c1, e1, hr1, hb1, hcc⟩ := h4 j hlt'
        refine ⟨A1, n1, c1, by rw [List.getElem?_append_left (by omega)]; exact e1, ?_, fun h0 b o e => ⟨.inl (hb1 h0 b o e).1, fun e2 => ?_⟩, hcc⟩
        · rw [show (rows ++ [row]).getD j [] = rows.getD j [] from by simp [List.getD, List.getElem?_append_left hlt']]
          exact hr1.kept hk0 (fun h0 b o e => (hb1 h0 b o e).2)
        · rcases hown1 b e2 with h | h
          · exact (hb1 h0 b o e).2 h
          · have := h3 b (hb1 h0 b o e).1; omega
      · refine ⟨A, n, c, by rw [← hvl]; simp, ?_, fun h0 b o e => ⟨.inr (.inl ⟨h0, o, e⟩), fun e2 => ?_⟩, hc, hc'⟩
        · rw [show (rows ++ [row]).getD rows.length [] = row from by simp [List.getD]]
          exact hr.kept hk0 (fun h0 b o e hb => hne h0 b o e (h2 b hb))
        · rcases hown1 b e2 with h | h
          · exact hne h0 b o e (h2 b h)
          · obtain ⟨b', o'', e', hb', _⟩ := hr.2 h0
            rw [e] at e'
            injection e' with e'; injection e' with e1 _
            omega
end Go.Proofs.Ytbkdgciaapkemaa
