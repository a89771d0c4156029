/- 'l = append(l, f)' of taken fields. -/
import Derived.Test.YtmhknpkiddgcpaaWireTwo
import Derived.Test.YtmhknpkiddgcpaaWireFldS
namespace Go.Proofs.Ytmhknpkiddgcpaa
open Go.RowKit
set_option linter.unusedVariables false
set_option linter.unusedSimpArgs false

theorem fld_full : (Try.prog.info? 31).map (fun i => (i.zero, i.size, i.bytes)) = some (some (.agg zeroF), 37, 88) := by kernel_rfl
theorem wpList_pushQ {ops : Array Oper} {rest : List Oper} {o : Oper} {a : Act} {Q : Exit → Act → World → Prop} (hgd : o.guard = none) (s x : Operand)
    (ho : o.op = .call { callee := .builtin .append, args := #[s, x], argTypes := #[22, 22] }) {B gx : Nat} {wr : World} {v : Value} {l : List QF} {q : QF} (hs : a.eval s = v)
    (hx : a.eval x = .slice (some ⟨gx, 0, none⟩) 1 1) (hown : OwnQ wr B v l) (hq : FldQ wr wr.heap.size q.f q.A q.m q.c) (hqo : ∀ b, v.ownBlock = some b → Off q.A q.m (· = b)) (hg : wr.heap[gx]? = some (.cells q.cells.toArray 31 (0, 0))) (hB : B ≤ wr.heap.size) (hl : l.length ≤ 1000)
    (h : ∀ v' w1, OwnQ w1 B v' (l ++ [q]) → Keep (fun k => v.ownBlock = some k) wr w1 → (∀ b, v'.ownBlock = some b → v.ownBlock = some b ∨ wr.heap.size ≤ b) → wpList Try.prog ops Q rest (a.put o.dst v') w1) : wpList Try.prog ops Q (o :: rest) a wr := by
  obtain ⟨i0, hi, hz0, hz1, hz2⟩ := info_parts fld_full
  have hql : q.cells.length = 37 := fldL_len hq.tl q.A q.m q.c
  refine wpList_plain hgd fun K hK => ?_
  refine wp_append_lies _ s x 22 ho B 31 i0 (.agg zeroF) 37 88 Try.underlying22 hi hz0 hz1 hz2 rfl (by decide) v l.length (cellsQ l) hs hown.1 ⟨gx, 0, none⟩ 1 1 q.cells hx (by rw [hql]) ?_ ?_ (by decide) (by unfold maxLen; omega) (by omega) hB _ rfl ?_
  · intro j u hu
    have e : (⟨gx, 0, none⟩ : Addr).add j = ⟨gx, j, none⟩ := by unfold Addr.add; split <;> simp_all
    rw [e, cell_of_row _ _ _ _ _ _ hg]
    simpa using hu
  · intro u hu
    simp only [QF.cells, fldL, List.mem_cons, List.mem_map] at hu
    rcases hu with rfl | rfl | rfl | rfl | rfl | ⟨b, _, rfl⟩ <;> rfl
  · intro g cap w1 hown' hgrow hgl hlt
    have hk : Keep (fun k => v.ownBlock = some k) wr w1 := ⟨hgrow.os, hgrow.tape, hgrow.output, hgrow.size, fun k hk hn => hgrow.block k hk (fun e => hn e.symm)⟩
    refine hK _ _ (h _ w1 ⟨?_, ?_⟩ hk ?_)
    · rw [List.length_append, cellsQ_app]
      simpa [cellsQ] using hown'
    · have each : ∀ p : QF, FldQ wr wr.heap.size p.f p.A p.m p.c → (∀ b, v.ownBlock = some b → Off p.A p.m (· = b)) → FldQ w1 w1.heap.size p.f p.A p.m p.c ∧ ∀ b, (Value.slice (some ⟨g, 0, none⟩) (l.length + 1) cap).ownBlock = some b → Off p.A p.m (· = b) := fun p hp hpo => by
        refine ⟨hp.kept hk (fun hn b o e hb => hpo b hb hn b o e rfl), fun b hb => ?_⟩
        simp only [Value.ownBlock, Option.some.injEq] at hb
        subst hb
        rcases hgl with hgl | hgl
        · exact hpo g hgl
        · intro hn b o e (hbg : b = g)
          obtain ⟨b', o', e', hlt', _⟩ := hp.rd.2 hn
          rw [e] at e'
          injection e' with e'; injection e' with e1 _
          omega
      intro p hp
      rcases List.mem_append.1 hp with hp | hp
      · exact each p (hown.2 p hp).1 (hown.2 p hp).2
      · obtain rfl : p = q := by simpa using hp
        exact each p hq hqo
    · intro b hb
      simp only [Value.ownBlock, Option.some.injEq] at hb
      subst hb
      rcases hgl with hgl | hgl
      · exact .inl hgl
      · exact .inr (by omega)
end Go.Proofs.Ytmhknpkiddgcpaa
