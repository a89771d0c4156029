/- 'want = append(want, put(f)...)' beside an object: the row's block is the same, or new. For the document's side of config. -/
import Derived.Test.YtljgliagciblbaaWA
namespace Go.Proofs.Ytljgliagciblbaa
open Go.RowKit
set_option linter.unusedVariables false

theorem wpList_pushAllL {P : Program} {T U : TypeId} (L : U8 P T U) {ops : Array Oper} {rest : List Oper} {o : Oper} {a : Act} {Q : Exit → Act → World → Prop} (hgd : o.guard = none) (s x : Operand)
    (ho : o.op = .call { callee := .builtin .append, args := #[s, x], argTypes := #[T, T] }) {B B' k m c : Nat} {A : Option Addr} {w wr : World} {v : Value} {bs news : List UInt8} (hs : a.eval s = v)
    (hx : a.eval x = .slice A m c) (hm0 : m = 0 → A = none) (hown : wr.ownsRow B U 1 v k (bs.map bval)) (hr : Rd wr B' A m news) (hb : Below B w wr) (hB : B ≤ wr.heap.size) (hk : k + m ≤ 140737488355328)
    (h : ∀ v' w1, w1.ownsRow B U 1 v' (k + m) ((bs ++ news).map bval) → Below B w w1 → Keep (fun k => v.ownBlock = some k) wr w1 → (∀ b, v'.ownBlock = some b → v.ownBlock = some b ∨ wr.heap.size ≤ b) → wpList P ops Q rest (a.put o.dst v') w1) : wpList P ops Q (o :: rest) a wr := by
  obtain ⟨i0, hi, hz0, hz1, hz2⟩ := info_parts L.info
  have hlen : news.length = m := hr.1
  by_cases h0 : m = 0
  · subst h0
    obtain rfl := hm0 rfl
    obtain rfl : news = [] := List.eq_nil_of_length_eq_zero hlen
    have hrun : (Builtin.append_ #[T, T] o.type #[v, .slice none 0 c]).run P wr = .ok v wr := by
      have hul := L.ul
      rcases hown.2 with ⟨rfl, rfl⟩ | ⟨g, cap, cur, rfl, _, _, hnc, _⟩
      · simp [Builtin.append_, run_underlying hul, sizeOf, typeInfo, hi, Builtin.lenOf, Builtin.firstCells]
      · simp [Builtin.append_, run_underlying hul, sizeOf, typeInfo, hi, Builtin.lenOf, Builtin.firstCells, hnc, storeCells]
    refine wpList_plain hgd fun K hK => ?_
    unfold Oper.wp execOp
    simp only [ho, resolve, invoke, builtin, Sem.run_bind, Sem.run_pure, Result.andThen_ok, List.map_toArray, List.map_cons, List.map_nil, hs, hx, hrun]
    exact hK _ _ (h v wr (by simpa using hown) hb (Keep.refl _ _) (fun b e => .inl e))
  · obtain ⟨b, of, rfl, _, hc⟩ := hr.2 (by omega)
    refine wpList_plain hgd fun K hK => ?_
    refine wp_append_lies _ s x T ho B U i0 (.int .u8 0) 1 1 L.ul hi hz0 hz1 hz2 rfl (by decide) v k _ hs hown ⟨b, of, none⟩ m c (news.map bval) hx (by simpa using hlen) ?_ (bvals_one _) (by omega) ?_ ?_ hB _ rfl ?_
    · intro j u hu
      have hj : j < m := by
        rcases Nat.lt_or_ge j m with g | g
        · exact g
        · rw [List.getElem?_eq_none (by simpa [hlen] using g)] at hu; cases hu
      have e : (⟨b, of, none⟩ : Addr).add j = ⟨b, of + j, none⟩ := by unfold Addr.add; split <;> simp_all
      rw [e, hc j hj, ← hu, List.getElem?_map, List.getElem?_eq_getElem (by omega), nth_of_lt (by omega)]
      rfl
    · unfold maxLen; omega
    · omega
    · intro g cap w1 hown' hgrow hg _
      refine hK _ _ (h _ w1 (by rw [List.map_append]; exact hown') (hb.grown hgrow hB (fun j hj => (hown.lt j hj).1)) ⟨hgrow.os, hgrow.tape, hgrow.output, hgrow.size, fun k hk hn => hgrow.block k hk (fun e => hn e.symm)⟩ (fun b' e => ?_))
      simp only [Value.ownBlock, Option.some.injEq] at e
      subst e
      rcases hg with h | h
      · exact .inl h
      · exact .inr (by omega)
theorem own_kept {R : Nat → Prop} {w w' : World} {B : Nat} {T : TypeId} {v : Value} {n : Nat} {xs : List Value} (h : w.ownsRow B T 1 v n xs) (hk : Keep R w w') (hn : ∀ b, v.ownBlock = some b → ¬ R b) : w'.ownsRow B T 1 v n xs := by
  refine ⟨h.1, ?_⟩
  rcases h.2 with h | ⟨g, cap, cur, e, hg, hh, h⟩
  · exact .inl h
  · exact .inr ⟨g, cap, cur, e, hg, (hk.block g (heap_at_lt hh) (hn g (by rw [e]; rfl))).trans hh, h⟩
end Go.Proofs.Ytljgliagciblbaa
