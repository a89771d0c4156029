/- A slice of strings of the call's own, wherever it begins in its block (StrR): appended to, cut at its front, read. No program is named but by its types. -/
import Derived.Test.YtkaobafgecoomaaKitO
import Derived.Deep.AppendLies
import Derived.Deep.WholeRow
namespace Go.Proofs.Ytkaobafgecoomaa
open Go.RowKit
set_option linter.unusedVariables false
set_option linter.unusedSimpArgs false

theorem strs_info : (Try.prog.info? 9).map (fun i => (i.zero, i.size, i.bytes)) = some (some (.string ⟨#[]⟩), 1, 16) := by kernel_rfl
theorem strs_size (w : World) : (sizeOf 9).run Try.prog w = .ok 1 w := by
  obtain ⟨i0, hi, hz0, hz1, hz2⟩ := info_parts strs_info
  simp [sizeOf, typeInfo, hi, hz1]
def sval (s : ByteArray) : Value := .string s
def StrR (w : World) (B : Nat) (v : Value) (n : Nat) (ss : List ByteArray) : Prop :=
  ss.length = n ∧ ((v = .slice none 0 0 ∧ ss = []) ∨ ∃ g o cap cur, v = .slice (some ⟨g, o, none⟩) n cap ∧ B ≤ g ∧ w.heap[g]? = some (.cells cur 9 (0, 0)) ∧ n ≤ cap ∧ o + cap ≤ cur.size ∧ cap ≤ maxLen ∧ ∀ j s, ss[j]? = some s → cur[o + j]? = some (sval s))
theorem StrR.nil (w : World) (B : Nat) : StrR w B (.slice none 0 0) 0 [] := ⟨rfl, .inl ⟨rfl, rfl⟩⟩
/-- The block that it lies in. -/
def SBlk (v : Value) (b : Nat) : Prop := ∃ o n c, v = .slice (some ⟨b, o, none⟩) n c
theorem StrR.blk {w : World} {B n b : Nat} {v : Value} {ss : List ByteArray} (h : StrR w B v n ss) (hb : SBlk v b) : B ≤ b ∧ b < w.heap.size := by
  obtain ⟨o, m, c, rfl⟩ := hb
  rcases h.2 with ⟨h0, _⟩ | ⟨g, o', cap, cur, e, hB, hg, _⟩
  · cases h0
  · injection e with e; injection e with e; injection e with e _; subst e
    exact ⟨hB, (Array.getElem?_eq_some_iff.1 hg).1⟩
theorem StrR.kept {R : Nat → Prop} {w w' : World} {B n : Nat} {v : Value} {ss : List ByteArray} (h : StrR w B v n ss) (hk : Keep R w w') (hn : ∀ b, R b → b < B) : StrR w' B v n ss := by
  refine ⟨h.1, ?_⟩
  rcases h.2 with h0 | ⟨g, o, cap, cur, e, hB, hg, rest⟩
  · exact .inl h0
  · exact .inr ⟨g, o, cap, cur, e, hB, (hk.block g (Array.getElem?_eq_some_iff.1 hg).1 (fun hr => by have := hn g hr; omega)).trans hg, rest⟩
theorem StrR.to {w w' : World} {B n : Nat} {v : Value} {ss : List ByteArray} (h : StrR w B v n ss) (hb : Below w.heap.size w w') : StrR w' B v n ss := h.kept (R := fun _ => False) (Keep.of_below hb) (fun _ h => h.elim)
theorem StrR.slice {w : World} {B n : Nat} {v : Value} {ss : List ByteArray} (h : StrR w B v n ss) : ∃ A c, v = .slice A n c ∧ n ≤ c := by
  rcases h.2 with ⟨rfl, rfl⟩ | ⟨g, o, cap, cur, e, _, _, hc, _⟩
  · have := h.1; simp at this; subst this; exact ⟨none, 0, rfl, Nat.le_refl _⟩
  · exact ⟨_, _, e, hc⟩
/-- The first of it. -/
theorem StrR.head {w : World} {B n c : Nat} {A : Option Addr} {s : ByteArray} {ss : List ByteArray} (h : StrR w B (.slice A n c) n (s :: ss)) : ∃ b o, A = some ⟨b, o, none⟩ ∧ w.cell? ⟨b, o, none⟩ = some (.string s) := by
  rcases h.2 with ⟨_, h0⟩ | ⟨g, o, cap, cur, e, _, hg, _, _, _, hc⟩
  · cases h0
  · injection e with e
    refine ⟨g, o, e, ?_⟩
    have := hc 0 s rfl
    simp only [World.cell?, hg]
    rw [Nat.add_zero] at this
    exact this
/-- Behind its first. -/
theorem StrR.tail {w : World} {B n c : Nat} {A : Option Addr} {s : ByteArray} {ss : List ByteArray} (h : StrR w B (.slice A (n + 1) c) (n + 1) (s :: ss)) :
    ∃ A' c', (∀ (k : IntKind) (W : World), (Instr.slice 49 (.slice A (n + 1) c) (some (.int k 1)) none none).run Try.prog W = .ok (.slice A' n c') W) ∧ StrR w B (.slice A' n c') n ss := by
  have hl : ss.length = n := by have := h.1; simpa using this
  rcases h.2 with ⟨h0, _⟩ | ⟨g, o, cap, cur, e, hB, hg, hc, ho, hm, hcell⟩
  · cases h0
  · injection e with e1 _ e3
    subst e1; subst e3
    have he : Try.prog.elem 49 = 9 := by kernel_rfl
    have hrun : ∀ (k : IntKind) (W : World), (Instr.slice 49 (.slice (some ⟨g, o, none⟩) (n + 1) c) (some (.int k 1)) none none).run Try.prog W = .ok (.slice (if c = 1 then some ⟨g, o, none⟩ else (some (⟨g, o, none⟩ : Addr)).map (·.add 1)) n (c - 1)) W := fun k W => by
      rw [run_slice_l (ht := by rw [he]; exact Try.underlying49) (kl := k) (l := 1) (h0 := by decide) (h1 := by omega), he, strs_size]
      simp [Result.andThen, sliced]
    refine ⟨_, _, hrun, hl, ?_⟩
    by_cases hc1 : c = 1
    · subst hc1
      obtain rfl : n = 0 := by omega
      refine .inr ⟨g, o, 0, cur, by simp, hB, hg, Nat.le_refl _, by omega, by unfold maxLen; omega, fun j x hj => ?_⟩
      have : ss = [] := List.eq_nil_of_length_eq_zero hl
      subst this; simp at hj
    · refine .inr ⟨g, o + 1, c - 1, cur, ?_, hB, hg, by omega, by omega, by omega, fun j x hj => ?_⟩
      · rw [if_neg hc1]; simp [Addr.add]
      · have := hcell (j + 1) x (by simpa using hj)
        rw [show o + 1 + j = o + (j + 1) by omega]; exact this
/-- 'want = append(want, s)': the run. -/
theorem run_pushT {w : World} {B n g2 : Nat} {v : Value} {ss : List ByteArray} {s : ByteArray} (ty : TypeId) (h : StrR w B v n ss) (hblk : w.heap[g2]? = some (.cells #[.string s] 9 (0, 0))) (hB : B ≤ w.heap.size) (hn : n + 1 ≤ 100000) :
    ∃ v' w', (Builtin.append_ #[49, 49] ty #[v, .slice (some ⟨g2, 0, none⟩) 1 1]).run Try.prog w = .ok v' w' ∧ StrR w' B v' (n + 1) (ss ++ [s]) ∧ Keep (SBlk v) w w' := by
  obtain ⟨i0, hi, hz0, hz1, hz2⟩ := info_parts strs_info
  have hul : Try.prog.underlying 49 = some (.slice 9) := Try.underlying49
  have hnews : ∀ j u, ([Value.string s] : List Value)[j]? = some u → w.cell? ((⟨g2, 0, none⟩ : Addr).add j) = some u := by
    intro j u hu
    rcases j with _ | j
    · simp at hu; subst hu
      rw [addr_add_zero]; simp [World.cell?, hblk]
    · simp at hu
  rcases h.2 with ⟨rfl, rfl⟩ | ⟨g, o, cap, cur, rfl, hBg, hg, hc, ho, hm, hcell⟩
  · obtain rfl : n = 0 := by have := h.1; simpa using this.symm
    obtain ⟨g', cap, w', hrun, h3, hgrow, h5, h6⟩ := run_append_lies (P := Try.prog) w 49 ty w.heap.size 9 i0 (.string ⟨#[]⟩) 1 16 hul hi hz0 hz1 hz2 rfl (by decide) (.slice none 0 0) 0 [] ⟨rfl, .inl ⟨rfl, rfl⟩⟩ ⟨g2, 0, none⟩ 1 1 [.string s] rfl (World.news_of_block hblk) (by intro u hu; simp at hu; subst hu; rfl) (by decide) (by unfold maxLen; omega) (by omega) (Nat.le_refl _) _ rfl
    obtain ⟨g3, cap3, cur3, e3, hg3, hh3, h31, h32, h33, h34⟩ : ∃ g3 cap3 cur3, (Value.slice (some ⟨g', 0, none⟩) (0 + 1) cap) = .slice (some ⟨g3, 0, none⟩) (0 + 1) cap3 ∧ w.heap.size ≤ g3 ∧ w'.heap[g3]? = some (.cells cur3 9 (0, 0)) ∧ 0 + 1 ≤ cap3 ∧ cap3 ≤ maxLen ∧ cur3.size = cap3 * 1 ∧ cur3.toList.take ((0 + 1) * 1) = [] ++ [.string s] := by
      rcases h3.2 with ⟨h0, _⟩ | ⟨g3, cap3, cur3, e3, hg3, hh3, h31, h32, h33, h34⟩
      · cases h0
      · exact ⟨g3, cap3, cur3, e3, hg3, hh3, h31, h32, by simpa using h33, by simpa using h34⟩
    refine ⟨_, w', hrun, ⟨rfl, .inr ⟨g3, 0, cap3, cur3, e3, by omega, hh3, h31, by rw [h33]; omega, h32, fun j x hj => ?_⟩⟩, ⟨hgrow.os, hgrow.tape, hgrow.output, hgrow.size, fun b hb _ => hgrow.block b hb (fun e => by cases e)⟩⟩
    rcases j with _ | j
    · simp at hj; subst hj
      have := congrArg (fun l => l[0]?) h34
      simpa [sval] using this
    · simp at hj
  · have hadd : ∀ j, (⟨g, o, none⟩ : Addr).add j = ⟨g, o + j, none⟩ := fun j => by unfold Addr.add; split <;> simp_all
    by_cases hroom : n + 1 ≤ cap
    · have hf := run_firstCells_some (P := Try.prog) w 1 1 ⟨g2, 0, none⟩ 1 1 [.string s] rfl hnews
      have hst := run_storeCells_g Try.prog g (o + n) 9 (0, 0) [.string s] 0 cur w hg (.inr rfl) (by simp; omega) (by intro u hu; simp at hu; subst hu; rfl)
      simp only [Nat.add_zero] at hst
      refine ⟨.slice (some ⟨g, o, none⟩) (n + 1) cap, w.setRow g (cur.toList.take (o + n) ++ [Value.string s] ++ cur.toList.drop (o + n + [Value.string s].length)).toArray, ?_, ⟨by simp [h.1], .inr ⟨g, o, cap, _, rfl, hBg, setRow_heap w g cur _ 9 (0, 0) hg, hroom, ?_, hm, fun j x hj => ?_⟩⟩, ⟨rfl, rfl, rfl, by simp, fun k hk hn => setRow_other w g k _ (fun e => hn (by rw [e]; exact ⟨o, n, cap, rfl⟩))⟩⟩
      · simp [Builtin.append_, run_underlying hul, sizeOf, typeInfo, hi, hz1, Builtin.lenOf, hroom, hf, hadd, hst]
      · simp only [List.size_toArray, List.length_append, List.length_take, List.length_drop, Array.length_toList, List.length_singleton]; omega
      · rcases Nat.lt_or_ge j n with hlt | hge
        · have hx : ss[j]? = some x := by rw [List.getElem?_append_left (by rw [h.1]; exact hlt)] at hj; exact hj
          have h1 := hcell j x hx
          rw [List.append_assoc, List.getElem?_toArray, List.getElem?_append_left (by simp; omega), List.getElem?_take_of_lt (by omega)]
          simpa using h1
        · obtain rfl : j = n := by
            rcases Nat.lt_or_ge j (n + 1) with g' | g'
            · omega
            · rw [List.getElem?_eq_none (by simp [h.1]; omega)] at hj; cases hj
          have hx : x = s := by
            rw [List.getElem?_append_right (by rw [h.1]; exact Nat.le_refl _), h.1] at hj
            simpa using hj.symm
          subst hx
          rw [List.append_assoc, List.getElem?_toArray, List.getElem?_append_right (by rw [List.length_take]; exact Nat.min_le_left _ _), List.length_take, Nat.min_eq_left (show o + j ≤ cur.toList.length by rw [Array.length_toList]; omega)]
          simp [sval]
    · have holds : ∀ j u, (ss.map sval)[j]? = some u → w.cell? ((⟨g, o, none⟩ : Addr).add j) = some u := by
        intro j u hu
        rw [List.getElem?_map] at hu
        cases hs : ss[j]? with
        | none => rw [hs] at hu; cases hu
        | some x =>
          rw [hs] at hu
          simp at hu
          rw [hadd, cell_of_row w g (o + j) cur 9 (0, 0) hg, hcell j x hs, hu]
      have hr := run_append_grow (P := Try.prog) w 49 ty 9 i0 (.string ⟨#[]⟩) hul hi hz0 ⟨g, o, none⟩ n cap (ss.map sval) (by rw [hz1]; simp [h.1]) holds ⟨g2, 0, none⟩ 1 1 [.string s] (by rw [hz1]; rfl) hnews (by omega) (by omega) (by rw [hz2]; exact growslice_fits (by omega) (by omega))
      have hge := grownCap_ge w (n + 1) cap 9
      have hcm2 : grownCap w (n + 1) cap 9 ≤ maxLen := grownCap_le_maxLen w (n + 1) cap 9 (by unfold maxLen; omega)
      refine ⟨_, _, hr, ⟨by simp [h.1], .inr ⟨w.heap.size, 0, _, _, rfl, hB, heap_alloc_new w.drew _, hge, ?_, hcm2, fun j x hj => ?_⟩⟩, ⟨rfl, rfl, rfl, by simp, fun k hk _ => Below.heap_alloc w.drew _ k hk⟩⟩
      · have hz1 : (Value.string ⟨#[]⟩).cells.size = 1 := rfl
        simp only [Array.size_append, List.size_toArray, size_zeroCells, hz1, List.length_map, h.1, List.length_singleton]
        omega
      · have hjn : j < n + 1 := by
          rcases Nat.lt_or_ge j (n + 1) with g' | g'
          · exact g'
          · rw [List.getElem?_eq_none (by simp [h.1]; omega)] at hj; cases hj
        rw [Nat.zero_add, Array.getElem?_append_left (by simp [h.1]; omega)]
        have : ((ss.map sval).toArray ++ [Value.string s].toArray) = ((ss ++ [s]).map sval).toArray := by simp [sval]
        rw [this, List.getElem?_toArray, List.getElem?_map, hj]
        rfl
end Go.Proofs.Ytkaobafgecoomaa
