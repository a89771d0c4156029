/- Several texts in one (a claim has 60 files at most): CfG, CfH, CfI. -/
import Derived.Test.YtljgliagciblbaaCfB
import Derived.Lib.SliceRun
import Derived.Test.YtljgliagciblbaaCfX
namespace Go.Proofs.Ytljgliagciblbaa

/- The library's Clone at windows, channels, partitions. -/
section
open Go.RowKit
set_option linter.unusedVariables false
set_option linter.unusedSimpArgs false

/-- A slice of partitions, element by element: what it reads as, where the images lie. -/
theorem RdP.rows {w : World} {B n : Nat} {A : Option Addr} {l : List Pt} (h : RdP w B A n l) : ∃ qs : List QP, qs.length = n ∧ qs.map QP.p = l ∧ ((partsV qs).length = n * 5 ∧ (0 < n → ∃ ad, A = some ad ∧ ∀ j u, (partsV qs)[j]? = some u → w.cell? (ad.add j) = some u)) ∧
    ∀ q ∈ qs, Rd w B q.A q.m q.p.img ∧ q.m ≤ q.c ∧ q.c ≤ 9223372036854775807 ∧ q.m ≤ 140737488351232 := by
  have hl := h.1
  have each : ∀ j, ∃ q : QP, j < n → q.p = ptAt l j ∧ (∀ b o, A = some ⟨b, o, none⟩ → ∀ i v, q.cells[i]? = some v → w.cell? ⟨b, o + j * 5 + i, none⟩ = some v) ∧ Rd w B q.A q.m q.p.img ∧ q.m ≤ q.c ∧ q.c ≤ 9223372036854775807 ∧ q.m ≤ 140737488351232 := fun j => by
    by_cases hj : j < n
    · obtain ⟨b, o, e, _, hc⟩ := h.2 (by omega)
      obtain ⟨A', m, c, h1, h2, h3⟩ := hc j hj
      refine ⟨⟨ptAt l j, A', m, c⟩, fun _ => ⟨rfl, fun b' o' e' => ?_, h2, h3⟩⟩
      rw [e] at e'
      injection e' with e'; injection e' with e1 e2
      subst e1; subst e2
      exact h1
    · exact ⟨⟨Pt.zero, none, 0, 0⟩, fun h => absurd h hj⟩
  obtain ⟨F, hF⟩ := Classical.axiomOfChoice each
  have hlen : ((List.range n).map F).length = n := by simp
  refine ⟨(List.range n).map F, hlen, ?_, ⟨by rw [partsV, flat_len QP.cells QP.cells_len, hlen], fun hn => ?_⟩, fun q hq => ?_⟩
  · refine List.ext_getElem (by simp [hl]) (fun j h1 h2 => ?_)
    simp only [List.getElem_map, List.getElem_range]
    rw [(hF j (by simpa using h1)).1, ptAt_lt h2]
  · obtain ⟨b, o, e, _, _⟩ := h.2 hn
    refine ⟨_, e, fun j u hu => ?_⟩
    obtain ⟨hj, hv⟩ := flat_of QP.cells (by decide) QP.cells_len _ hu
    have hj' : j / 5 < n := by rw [hlen] at hj; exact hj
    have e1 : ((List.range n).map F)[j / 5] = F (j / 5) := by simp
    rw [e1] at hv
    rw [cell_none, show o + j = o + j / 5 * 5 + j % 5 by omega]
    exact (hF (j / 5) hj').2.1 b o e _ _ hv
  · obtain ⟨j, hj, rfl⟩ := List.mem_map.1 hq
    exact (hF j (List.mem_range.1 hj)).2.2
set_option maxRecDepth 1000000 in
set_option maxHeartbeats 1000000 in
theorem wCloneW (A : Option Addr) (n c : Nat) (l : List Reg) (w : World) (h : RdG w w.heap.size A n l) (hn : n ≤ 1000) :
    Calls Try.prog 71 #[.slice A n c] w fun e w' => ∃ A' c', e = .returned (.slice A' n c') ∧ w'.ownsRow w.heap.size 62 2 (.slice A' n c') n (winsV l) ∧ Below w.heap.size w w' := by
  have NW := Lib.hid h.news
  have HN := Lib.hid hn
  have qT : ∀ (w : World) (a : Option Addr) (n c n' c' : Nat), (binOp .eql 22 (.slice a n c) (.slice none n' c')).run Try.prog w = .ok (.bool a.isNone) w := fun w a n c n' c' => Lib.run_eql_slice_nil w _ _ a n c n' c' Try.underlying22
  clear h hn
  rcases A with _ | a
  · obtain rfl : n = 0 := by
      rcases Nat.eq_zero_or_pos n with h0 | h0
      · exact h0
      · obtain ⟨_, e, _⟩ := NW.out.2 h0; cases e
    have HL := Lib.hid (List.eq_nil_of_length_eq_zero (NW.out.1.trans (Nat.zero_mul _)))
    go_enter Try.func71, Try.ntmps71
    go_wp2_with fail
    go_ret
    exact ⟨none, 0, rfl, by rw [HL.out]; exact World.ownsRow_nil _ _ _ _, Below.refl _ _⟩
  have hbx := Bx.new w 62 []
  have O := Lib.hid (own_nilV (B := w.heap.size) (z := 2) hbx (Nat.le_refl _))
  have B := Lib.hid ((Below.refl w.heap.size w).alloc (Nat.le_refl _) (.cells #[] 62))
  have NW2 : Hid (0 < n → ∃ ad, some a = some ad ∧ ∀ j u, (winsV l)[j]? = some u → (w.alloc (.cells #[] 62)).cell? (ad.add j) = some u) := fun hn => by
    obtain ⟨ad, e, hc⟩ := NW.out.2 hn
    exact ⟨ad, e, fun j u hu => Below.kept ((Below.refl w.heap.size w).alloc (Nat.le_refl _) (.cells #[] 62)) (hc j u hu)⟩
  clear hbx
  go_enter Try.func71, Try.ntmps71
  go_wp2_with (at_builtin; refine wpList_pushV vtW rfl _ _ rfl rfl rfl O.out NW.out.1 NW2.out (winsV_one _) B.out.size (by have := HN.out; omega) ?_; intro v1 w1 hown1 hk1 hv1)
  go_ret
  rw [Nat.zero_add, List.nil_append] at hown1
  obtain ⟨A1, c1, rfl⟩ := own_slV hown1
  exact ⟨A1, c1, rfl, hown1, hk1.below B.out B.out.size (fun k hk => (O.out.lt k hk).1)⟩
set_option maxRecDepth 1000000 in
set_option maxHeartbeats 1000000 in
theorem wCloneC (A : Option Addr) (n c : Nat) (l : List Ch) (w : World) (h : RdC w w.heap.size A n l) (hn : n ≤ 1000) :
    Calls Try.prog 72 #[.slice A n c] w fun e w' => ∃ A' c', e = .returned (.slice A' n c') ∧ w'.ownsRow w.heap.size 50 5 (.slice A' n c') n (chsV l) ∧ Below w.heap.size w w' := by
  have NW := Lib.hid h.news
  have HN := Lib.hid hn
  have qT : ∀ (w : World) (a : Option Addr) (n c n' c' : Nat), (binOp .eql 24 (.slice a n c) (.slice none n' c')).run Try.prog w = .ok (.bool a.isNone) w := fun w a n c n' c' => Lib.run_eql_slice_nil w _ _ a n c n' c' Try.underlying24
  clear h hn
  rcases A with _ | a
  · obtain rfl : n = 0 := by
      rcases Nat.eq_zero_or_pos n with h0 | h0
      · exact h0
      · obtain ⟨_, e, _⟩ := NW.out.2 h0; cases e
    have HL := Lib.hid (List.eq_nil_of_length_eq_zero (NW.out.1.trans (Nat.zero_mul _)))
    go_enter Try.func72, Try.ntmps72
    go_wp2_with fail
    go_ret
    exact ⟨none, 0, rfl, by rw [HL.out]; exact World.ownsRow_nil _ _ _ _, Below.refl _ _⟩
  have hbx := Bx.new w 50 []
  have O := Lib.hid (own_nilV (B := w.heap.size) (z := 5) hbx (Nat.le_refl _))
  have B := Lib.hid ((Below.refl w.heap.size w).alloc (Nat.le_refl _) (.cells #[] 50))
  have NW2 : Hid (0 < n → ∃ ad, some a = some ad ∧ ∀ j u, (chsV l)[j]? = some u → (w.alloc (.cells #[] 50)).cell? (ad.add j) = some u) := fun hn => by
    obtain ⟨ad, e, hc⟩ := NW.out.2 hn
    exact ⟨ad, e, fun j u hu => Below.kept ((Below.refl w.heap.size w).alloc (Nat.le_refl _) (.cells #[] 50)) (hc j u hu)⟩
  clear hbx
  go_enter Try.func72, Try.ntmps72
  go_wp2_with (at_builtin; refine wpList_pushV vtC rfl _ _ rfl rfl rfl O.out NW.out.1 NW2.out (chsV_one _) B.out.size (by have := HN.out; omega) ?_; intro v1 w1 hown1 hk1 hv1)
  go_ret
  rw [Nat.zero_add, List.nil_append] at hown1
  obtain ⟨A1, c1, rfl⟩ := own_slV hown1
  exact ⟨A1, c1, rfl, hown1, hk1.below B.out B.out.size (fun k hk => (O.out.lt k hk).1)⟩
set_option maxRecDepth 1000000 in
set_option maxHeartbeats 1000000 in
theorem wCloneP (A : Option Addr) (n c : Nat) (l : List QP) (w : World) (h : (partsV l).length = n * 5 ∧ (0 < n → ∃ ad, A = some ad ∧ ∀ j u, (partsV l)[j]? = some u → w.cell? (ad.add j) = some u)) (hn : n ≤ 1000) :
    Calls Try.prog 70 #[.slice A n c] w fun e w' => ∃ A' c', e = .returned (.slice A' n c') ∧ w'.ownsRow w.heap.size 46 5 (.slice A' n c') n (partsV l) ∧ Below w.heap.size w w' := by
  have NW := Lib.hid h
  have HN := Lib.hid hn
  have qT : ∀ (w : World) (a : Option Addr) (n c n' c' : Nat), (binOp .eql 23 (.slice a n c) (.slice none n' c')).run Try.prog w = .ok (.bool a.isNone) w := fun w a n c n' c' => Lib.run_eql_slice_nil w _ _ a n c n' c' Try.underlying23
  clear h hn
  rcases A with _ | a
  · obtain rfl : n = 0 := by
      rcases Nat.eq_zero_or_pos n with h0 | h0
      · exact h0
      · obtain ⟨_, e, _⟩ := NW.out.2 h0; cases e
    have HL := Lib.hid (List.eq_nil_of_length_eq_zero (NW.out.1.trans (Nat.zero_mul _)))
    go_enter Try.func70, Try.ntmps70
    go_wp2_with fail
    go_ret
    exact ⟨none, 0, rfl, by rw [HL.out]; exact World.ownsRow_nil _ _ _ _, Below.refl _ _⟩
  have hbx := Bx.new w 46 []
  have O := Lib.hid (own_nilV (B := w.heap.size) (z := 5) hbx (Nat.le_refl _))
  have B := Lib.hid ((Below.refl w.heap.size w).alloc (Nat.le_refl _) (.cells #[] 46))
  have NW2 : Hid (0 < n → ∃ ad, some a = some ad ∧ ∀ j u, (partsV l)[j]? = some u → (w.alloc (.cells #[] 46)).cell? (ad.add j) = some u) := fun hn => by
    obtain ⟨ad, e, hc⟩ := NW.out.2 hn
    exact ⟨ad, e, fun j u hu => Below.kept ((Below.refl w.heap.size w).alloc (Nat.le_refl _) (.cells #[] 46)) (hc j u hu)⟩
  clear hbx
  go_enter Try.func70, Try.ntmps70
  go_wp2_with (at_builtin; refine wpList_pushV vtP rfl _ _ rfl rfl rfl O.out NW.out.1 NW2.out (partsV_one _) B.out.size (by have := HN.out; omega) ?_; intro v1 w1 hown1 hk1 hv1)
  go_ret
  rw [Nat.zero_add, List.nil_append] at hown1
  obtain ⟨A1, c1, rfl⟩ := own_slV hown1
  exact ⟨A1, c1, rfl, hown1, hk1.below B.out B.out.size (fun k hk => (O.out.lt k hk).1)⟩
end

/- The program's config: Copy. -/
section
open Go.RowKit
set_option linter.unusedVariables false
set_option linter.unusedSimpArgs false

theorem own_setV {w : World} {B z : Nat} {T : TypeId} {g n c k : Nat} {xs vs : List Value} (h : w.ownsRow B T z (.slice (some ⟨g, 0, none⟩) n c) n xs) (hk : k < n) (hv : vs.length = z) :
    (setsC w g (k * z) vs).ownsRow B T z (.slice (some ⟨g, 0, none⟩) n c) n (xs.take (k * z) ++ vs ++ xs.drop (k * z + z)) := by
  have hkz : k * z + z ≤ n * z := by rw [← Nat.succ_mul]; exact Nat.mul_le_mul_right z hk
  rcases h.2 with ⟨e, _⟩ | ⟨g', cap, cur, e, hB, hh, hnc, hcm, hcs, htk⟩
  · cases e
  · simp only [Value.slice.injEq, Option.some.injEq, Addr.mk.injEq, and_true, true_and] at e
    obtain ⟨rfl, rfl⟩ := e
    have hb : Bx w g T cur.toList := by show w.heap[g]? = _; rw [hh]
    have hcz : n * z ≤ c * z := Nat.mul_le_mul_right z hnc
    have hlen : cur.toList.length = c * z := by rw [Array.length_toList]; exact hcs
    have h2 := Bx.setsAt vs (k * z) hb (by rw [hv, hlen]; omega)
    rw [hv] at h2
    have hx : xs.length = n * z := h.1
    have e1 : xs.take (k * z) = cur.toList.take (k * z) := by rw [← htk, List.take_take, Nat.min_eq_left (by omega)]
    have e2 : xs.drop (k * z + z) = (cur.toList.drop (k * z + z)).take (n * z - (k * z + z)) := by rw [← htk, List.drop_take]
    have l1 : (cur.toList.take (k * z)).length = k * z := by rw [List.length_take, hlen]; omega
    refine ⟨?_, .inr ⟨g, c, _, rfl, hB, h2, hnc, hcm, ?_, ?_⟩⟩
    · rw [e1, e2]
      simp only [List.length_append, List.length_take, List.length_drop, hlen, hv]
      omega
    · simp only [List.size_toArray, List.length_append, List.length_take, List.length_drop, hlen, hv]
      omega
    · show (cur.toList.take (k * z) ++ vs ++ cur.toList.drop (k * z + z)).take (n * z) = _
      rw [List.take_append, e1, e2]
      have l2 : (cur.toList.take (k * z) ++ vs).length = k * z + z := by rw [List.length_append, l1, hv]
      rw [List.take_of_length_le (by omega), l2]
theorem flat_set {α : Type} (f : α → List Value) {z : Nat} (hz : ∀ x, (f x).length = z) (x : α) : ∀ (l : List α) (k : Nat), k < l.length → (l.set k x).flatMap f = (l.flatMap f).take (k * z) ++ f x ++ (l.flatMap f).drop (k * z + z)
  | [], k, h => absurd h (Nat.not_lt_zero _)
  | a :: l, 0, _ => by
    simp only [List.set_cons_zero, List.flatMap_cons, Nat.zero_mul, List.take_zero, List.nil_append, Nat.zero_add]
    rw [List.drop_append_of_le_length (by rw [hz]; exact Nat.le_refl _), List.drop_of_length_le (by rw [hz]; exact Nat.le_refl _), List.nil_append]
  | a :: l, k + 1, h => by
    simp only [List.set_cons_succ, List.flatMap_cons]
    rw [flat_set f hz x l k (by simpa using h), List.take_append, List.drop_append, hz]
    have e1 : (k + 1) * z = z + k * z := by rw [Nat.succ_mul]; omega
    rw [e1, List.take_of_length_le (l := f a) (by rw [hz]; omega), List.drop_of_length_le (l := f a) (by rw [hz]; omega), List.nil_append]
    have e2 : z + k * z - z = k * z := by omega
    have e3 : z + k * z + z - z = k * z + z := by omega
    rw [e2, e3]
    simp
/-- While Copy copies: the first k images are the call's own. -/
structure CpRel (w0 : World) (A : Option Addr) (n c k : Nat) (ps : List Pt) (w : World) (qs : List QP) : Prop where
  len : qs.length = n
  ps : qs.map QP.p = ps
  row : w.ownsRow w0.heap.size 46 5 (.slice A n c) n (partsV qs)
  img : ∀ j (h : j < qs.length), j < k → Img w w0.heap.size qs[j] ∧ ∀ b, (Value.slice A n c).ownBlock = some b → Off qs[j].A qs[j].m (· = b)
  old : ∀ j (h : j < qs.length), k ≤ j → Rd w0 w0.heap.size qs[j].A qs[j].m qs[j].p.img ∧ qs[j].m ≤ 140737488351232
  bel : Below w0.heap.size w0 w
theorem CpRel.step {w0 w w' : World} {A : Option Addr} {n c k : Nat} {ps : List Pt} {qs : List QP} (h : CpRel w0 A n c k ps w qs) (hb : Below w.heap.size w w') : CpRel w0 A n c k ps w' qs :=
  ⟨h.len, h.ps, own_bv h.row hb, fun j hj hk => ⟨(h.img j hj hk).1.kept (R := fun _ => False) (Keep.of_below hb) (fun _ _ _ _ hh => hh), (h.img j hj hk).2⟩, h.old, h.bel.trans (hb.mono h.bel.size)⟩
theorem CpRel.put {w0 w : World} {g n c k : Nat} {ps : List Pt} {qs : List QP} {q : QP} (h : CpRel w0 (some ⟨g, 0, none⟩) n c k ps w qs) (hk : k < qs.length) (hq : Img w w0.heap.size q) (hqo : Off q.A q.m (· = g)) (hp : q.p = qs[k].p) :
    CpRel w0 (some ⟨g, 0, none⟩) n c (k + 1) ps (setsC w g (k * 5) q.cells) (qs.set k q) := by
  have hkn : k < n := by rw [← h.len]; exact hk
  have hg : w0.heap.size ≤ g := (h.row.lt g rfl).1
  have hK := Keep.sets (R := (· = g)) rfl q.cells (k * 5) (Keep.refl _ w)
  have hqo' : ∀ b, (Value.slice (some ⟨g, 0, none⟩) n c).ownBlock = some b → Off q.A q.m (· = b) := fun b hb => by
    simp only [Value.ownBlock, Option.some.injEq] at hb
    subst hb; exact hqo
  refine ⟨by rw [List.length_set]; exact h.len, ?_, ?_, fun j hj hjk => ?_, fun j hj hjk => ?_, below_sets hg q.cells (k * 5) h.bel⟩
  · rw [List.map_set, hp, ← h.ps]
    refine List.ext_getElem (by simp) (fun j h1 h2 => ?_)
    rw [List.getElem_set]
    split
    · rename_i e; subst e; simp
    · rfl
  · rw [partsV, flat_set QP.cells QP.cells_len q qs k hk]
    exact own_setV h.row hkn rfl
  · rw [List.getElem_set]
    split
    · exact ⟨hq.kept hK hqo, hqo'⟩
    · rename_i hne
      have hj' : j < qs.length := by simpa using hj
      have := h.img j hj' (by omega)
      exact ⟨this.1.kept hK (this.2 g rfl), this.2⟩
  · rw [List.getElem_set, if_neg (by omega)]
    exact h.old j (by simpa using hj) (by omega)
theorem CpRel.done {w0 w : World} {A : Option Addr} {n c : Nat} {ps : List Pt} {qs : List QP} (h : CpRel w0 A n c n ps w qs) : OwnP w w0.heap.size (.slice A n c) qs := by
  refine ⟨?_, fun q hq => ?_, fun q hq b hb => ?_⟩
  · rw [h.len]; exact h.row
  · obtain ⟨j, hj, rfl⟩ := List.getElem_of_mem hq
    exact (h.img j hj (by rw [← h.len]; exact hj)).1
  · obtain ⟨j, hj, rfl⟩ := List.getElem_of_mem hq
    exact (h.img j hj (by rw [← h.len]; exact hj)).2 b hb
end

/- The program's config: Copy (the walk). -/
section
open Go.RowKit
set_option linter.unusedVariables false
set_option linter.unusedSimpArgs false

theorem res_cf1 {fn : Func} {p : Tmp} (h : fn.results = #[.cell p 26]) (tmps : Array Value) (w : World) (g : Nat) (a b c : Value) (hp : tmps.getD p undef = .pointer (some ⟨g, 0, none⟩)) (hx : Bx w g 26 (fld3 a b c)) :
    (results fn tmps).run Try.prog w = .ok (.agg #[a, b, c]) w := by
  have hp' : tmps[p]?.getD undef = .pointer (some ⟨g, 0, none⟩) := by simpa using hp
  have c0 := hx.at (j := 0) rfl
  have c1 := hx.at (j := 1) rfl
  have c2 := hx.at (j := 2) rfl
  simp [results, h, hp', asAddr]
  go_simp
  try rfl
theorem two_boxes (v : CV) (w : World) : ∃ w2, ((w.alloc (.cells #[.slice v.aw v.nw v.kw, .slice v.ap v.np v.kp, .slice v.ac v.nc v.kc] 26)).alloc (.cells #[.slice none 0 0, .slice none 0 0, .slice none 0 0] 26)) = w2 ∧
    Below w.heap.size w w2 ∧ Bx w2 w.heap.size 26 (cfL v) ∧ Bx w2 (w.heap.size + 1) 26 [.slice none 0 0, .slice none 0 0, .slice none 0 0] ∧ w2.heap.size = w.heap.size + 2 := by
  refine ⟨_, rfl, (((Below.refl w.heap.size w).alloc (Nat.le_refl _) _).alloc (by simp) _), ?_, ?_, by simp⟩
  · have h := Bx.new w 26 (cfL v)
    exact h.to ((Below.refl _ _).alloc (Nat.le_refl _) _)
  · have h := Bx.new (w.alloc (.cells #[.slice v.aw v.nw v.kw, .slice v.ap v.np v.kp, .slice v.ac v.nc v.kc] 26)) 26 [.slice none 0 0, .slice none 0 0, .slice none 0 0]
    simpa using h
theorem own_moV {w : World} {B B' z : Nat} {T : TypeId} {v : Value} {n : Nat} {xs : List Value} (h : w.ownsRow B T z v n xs) (hB : B' ≤ B) : w.ownsRow B' T z v n xs := by
  refine ⟨h.1, ?_⟩
  rcases h.2 with h | ⟨g, cap, cur, e, hg, hh, h⟩
  · exact .inl h
  · exact .inr ⟨g, cap, cur, e, Nat.le_trans hB hg, hh, h⟩
set_option maxRecDepth 1000000 in
set_option maxHeartbeats 1000000 in
theorem wCopy (v : CV) (c : Cf) (w : World) (h : RdCf w w.heap.size v c) (hw : v.nw ≤ 1000) (hp : v.np ≤ 1000) (hc : v.nc ≤ 1000) :
    Calls Try.prog 26 #[.agg #[.slice v.aw v.nw v.kw, .slice v.ap v.np v.kp, .slice v.ac v.nc v.kc]] w fun x w' => ∃ v' : CV, x = .returned v'.val ∧ OwCf w' w.heap.size v' c ∧ Below w.heap.size w w' := by
  obtain ⟨w2, hw2, hb2, hx, hz, hs2⟩ := two_boxes v w
  have R := Lib.hid (h.to hb2)
  have X := Lib.hid hx
  have Z := Lib.hid hz
  have BW := Lib.hid hb2
  have S2 := Lib.hid hs2
  have HW2 := Lib.hid hw2
  have HNW := Lib.hid hw
  have HNP := Lib.hid hp
  have HNC := Lib.hid hc
  clear h hw hp hc hw2 hb2 hx hz hs2
  go_enter Try.func26, Try.ntmps26
  go_upto_region 1 with (fail)
  rw [show (w.alloc (.cells #[.slice v.aw v.nw v.kw, .slice v.ap v.np v.kp, .slice v.ac v.nc v.kc] 26)).alloc (.cells #[.slice none 0 0, .slice none 0 0, .slice none 0 0] 26) = w2 from HW2.out]
  clear HW2
  have x1 := X.out.at (j := 1) rfl
  go_wp2_with fail
  obtain ⟨qs, hq1, hq2, hq3, hq4⟩ := R.out.pp.rows
  refine (wCloneP v.ap v.np v.kp qs w2 hq3 HNP.out).mono ?_
  rintro e w3 ⟨A, kc, rfl, hown, hb3⟩
  have HR : Hid (∃ qs, CpRel w2 A v.np kc 0 c.ps w3 qs) := ⟨qs, hq1, hq2, hown, fun j hj hk => absurd hk (Nat.not_lt_zero _), fun j hj _ => ⟨(hq4 _ (List.getElem_mem hj)).1, (hq4 _ (List.getElem_mem hj)).2.2.2⟩, hb3⟩
  clear hq1 hq2 hq3 hq4 hown hb3 x1
  go_wp2_with fail
  go_loopw [4, 5, 11] (fun s4 s5 s11 wr => ∃ k : Nat, k ≤ v.np ∧ s11 = .int .i64 (k : Int) ∧ ∃ qs, CpRel w2 A v.np kc k c.ps wr qs) (fun _ _ s11 _ => v.np - (intOf s11).toNat)
  case atStart => exact ⟨0, Nat.zero_le _, rfl, HR.out⟩
  case round =>
    clear HR
    obtain ⟨k, hk, rfl, qs, hcp⟩ := hrel
    have H := Lib.hid hcp
    have HK := Lib.hid hk
    clear hcp hk
    by_cases hlt : k < v.np
    · have hltI : (k : Int) < (v.np : Int) := by omega
      have hwk : IntKind.i64.wrap ((k : Int) + 1) = (k : Int) + 1 := by have := HNP.out; rw [IntKind.wrap_i64]; omega
      have HLT : Hid (k < v.np) := hlt
      obtain ⟨g, hA, hg, hgl, hfr, hcell⟩ := own_frV H.out.row (by omega)
      subst hA
      have HFR := Lib.hid hfr
      have hkq : k < qs.length := by rw [H.out.len]; exact hlt
      have HKQ := Lib.hid hkq
      have y0 := hcell _ _ (flat_at QP.cells QP.cells_len qs k 0 hkq (by decide))
      have y1 := hcell _ _ (flat_at QP.cells QP.cells_len qs k 1 hkq (by decide))
      have y2 := hcell _ _ (flat_at QP.cells QP.cells_len qs k 2 hkq (by decide))
      have y3 := hcell _ _ (flat_at QP.cells QP.cells_len qs k 3 hkq (by decide))
      have y4 := hcell _ _ (flat_at QP.cells QP.cells_len qs k 4 hkq (by decide))
      have hold := H.out.old k hkq (Nat.le_refl _)
      have HOLD := Lib.hid hold
      clear hcell hfr hlt hold
      generalize hq : qs[k] = q at *
      replace hq := Lib.hid hq
      simp only [QP.cells, ptL, Nat.add_zero] at y0 y1 y2 y3 y4
      have BA := (Below.refl wr.heap.size wr).alloc (Nat.le_refl _) (.cells #[.int .i64 q.p.id, .int .i64 q.p.base, .int .i64 q.p.size, .bool q.p.keep, .slice q.A q.m q.c] 46)
      have RA := Lib.hid ((HOLD.out.1.below (H.out.bel.trans (BA.mono H.out.bel.size))).more (Nat.le_trans H.out.bel.size BA.size))
      have H1 := Lib.hid (H.out.step BA)
      clear BA
      go_wp2_with fail
      refine (wCopied q.p q.A q.m q.c _ RA.out (by have := HOLD.out.2; omega)).mono ?_
      rintro e w5 ⟨A3, m3, c3, rfl, ho, hc1, hc2, hb5⟩
      have O := Lib.hid ho
      have HC1 := Lib.hid hc1
      have HC2 := Lib.hid hc2
      have H2 := Lib.hid (H1.out.step hb5)
      clear ho hc1 hc2 hb5 y0 y1 y2 y3 y4 RA
      obtain ⟨g', hA, _, _, hfr, hcell⟩ := own_frV H2.out.row (by have := HLT.out; omega)
      obtain rfl : g = g' := by injection hA with hA; injection hA
      have y0 := hcell _ _ (flat_at QP.cells QP.cells_len qs k 0 HKQ.out (by decide))
      have y1 := hcell _ _ (flat_at QP.cells QP.cells_len qs k 1 HKQ.out (by decide))
      have y2 := hcell _ _ (flat_at QP.cells QP.cells_len qs k 2 HKQ.out (by decide))
      have y3 := hcell _ _ (flat_at QP.cells QP.cells_len qs k 3 HKQ.out (by decide))
      have y4 := hcell _ _ (flat_at QP.cells QP.cells_len qs k 4 HKQ.out (by decide))
      have f0 := hfr (k * 5)
      have f1 := hfr (k * 5 + 1)
      have f2 := hfr (k * 5 + 2)
      have f3 := hfr (k * 5 + 3)
      have f4 := hfr (k * 5 + 4)
      have hq2 : qs[k]'(HKQ.out) = q := hq.out
      rw [hq2] at y0 y1 y2 y3 y4
      clear hq2
      simp only [QP.cells, ptL, Nat.add_zero] at y0 y1 y2 y3 y4
      have HIM : Hid (Img w5 w2.heap.size ⟨q.p, A3, m3, c3⟩) := ⟨O.out.mono (by have := H.out.bel.size; simp; omega), HC1.out, HC2.out, by rw [← O.out.1.1, HOLD.out.1.1]; exact HOLD.out.2⟩
      have HIO : Hid (Off A3 m3 (· = g)) := O.out.off (fun k hk => by have := (H.out.row.lt g rfl).2; simp; omega)
      clear hA hfr hcell
      go_wp2_with fail
      go_roundw
      case rel => exact ⟨k + 1, HLT.out, by go_num, qs.set k ⟨q.p, A3, m3, c3⟩, H2.out.put HKQ.out HIM.out HIO.out (show q.p = _ from congrArg QP.p hq.out.symm)⟩
      case measure => simp [intOf]; omega
    · obtain rfl : k = v.np := by have := HK.out; omega
      clear hlt
      have HO := Lib.hid H.out.done
      have HQ := Lib.hid H.out.ps
      have BL := Lib.hid H.out.bel
      clear H HK
      go_wp2_with fail
      obtain ⟨wd, hwd⟩ : ∃ wd, wr.drew = wd := ⟨_, rfl⟩
      have BD : Hid (Below w2.heap.size w2 wd) := by (show Below _ _ _); rw [← hwd]; exact BL.out.drew
      have OD : Hid (OwnP wd w2.heap.size (.slice A v.np kc) qs) := by (show OwnP _ _ _ _); rw [← hwd]; exact HO.out.kept (R := fun _ => False) ((Keep.refl _ wr).drew) (fun _ _ hh => hh) (fun _ _ _ _ _ _ hh => hh)
      have XD := Lib.hid (X.out.to BD.out)
      have ZD := Lib.hid (Z.out.to BD.out)
      have RW := Lib.hid (R.out.ww.to BD.out)
      have RC := Lib.hid (R.out.cc.to BD.out)
      refine wp_region_held_drew (S := (fun w' => w'.cell? ⟨w.heap.size, 0, none⟩ = some (.slice v.aw v.nw v.kw) ∧ w'.cell? ⟨w.heap.size, 2, none⟩ = some (.slice v.ac v.nc v.kc))) (by kernel_rfl) ((by rw [hwd]; exact ⟨XD.out.at (j := 0) rfl, XD.out.at (j := 2) rfl⟩)) (fun hHeld => ?_)
      rw [hwd] at hHeld ⊢
      clear hwd BL HO X Z R
      refine wpAnyH_take (i := 0) (v := ?_) rfl (by kernel_rfl) (by kernel_rfl) (by kernel_rfl) (fun _ _ _ h => h) (Or.inl ⟨by rfl, ?_⟩) (by assumption) ?_
      rotate_left 1
      · intro w hSw; (try dsimp only at hSw); go_simp; (try with_reducible rfl)
      simp only [Act.put, List.getElem_toArray, List.getElem_cons_zero, List.getElem_cons_succ, List.setIfInBounds_toArray, List.set_cons_zero, List.set_cons_succ]
      refine wpAnyH_take (i := 1) (v := ?_) rfl (by kernel_rfl) (by kernel_rfl) (by kernel_rfl) (fun _ _ _ h => h) (Or.inl ⟨by rfl, ?_⟩) (by assumption) ?_
      rotate_left 1
      · intro w hSw; (try dsimp only at hSw); go_simp; (try with_reducible rfl)
      simp only [Act.put, List.getElem_toArray, List.getElem_cons_zero, List.getElem_cons_succ, List.setIfInBounds_toArray, List.set_cons_zero, List.set_cons_succ]
      refine wpAnyH_take (i := 3) (v := ?_) rfl (by kernel_rfl) (by kernel_rfl) (by kernel_rfl) (fun _ _ _ h => h) (Or.inl ⟨by rfl, ?_⟩) (by assumption) ?_
      rotate_left 1
      · intro w hSw; (try dsimp only at hSw); go_simp; (try with_reducible rfl)
      simp only [Act.put, List.getElem_toArray, List.getElem_cons_zero, List.getElem_cons_succ, List.setIfInBounds_toArray, List.set_cons_zero, List.set_cons_succ]
      refine wpAnyH_take (i := 4) (v := ?_) rfl (by kernel_rfl) (by kernel_rfl) (by kernel_rfl) (fun _ _ _ h => h) (Or.inl ⟨by rfl, ?_⟩) (by assumption) ?_
      rotate_left 1
      · intro w hSw; (try dsimp only at hSw); go_simp; (try with_reducible rfl)
      simp only [Act.put, List.getElem_toArray, List.getElem_cons_zero, List.getElem_cons_succ, List.setIfInBounds_toArray, List.set_cons_zero, List.set_cons_succ]
      refine wpAnyH_take (i := 5) (v := ?_) rfl (by kernel_rfl) (by kernel_rfl) (by kernel_rfl) (fun _ _ _ h => h) (Or.inl ⟨by rfl, ?_⟩) (by assumption) ?_
      rotate_left 1
      · intro w hSw; (try dsimp only at hSw); go_simp; (try with_reducible rfl)
      simp only [Act.put, List.getElem_toArray, List.getElem_cons_zero, List.getElem_cons_succ, List.setIfInBounds_toArray, List.set_cons_zero, List.set_cons_succ]
      refine wpAnyH_ready (rs := [2]) (by kernel_rfl) (by simp) ?_
      refine AllReadyH.cons rfl (fun K hK => ?_) AllReadyH.nil
      go_simp
      refine (wCloneW v.aw v.nw v.kw c.ws wd RW.out HNW.out).mono ?_
      rintro e w6 ⟨A6, c6, rfl, hown6, hb6⟩
      have O6 := Lib.hid hown6
      have B6 := Lib.hid hb6
      clear hown6 hb6 hHeld
      go_wp2_with fail
      refine hK.out _ _ (⟨(XD.out.to B6.out).at (j := 0) rfl, (XD.out.to B6.out).at (j := 2) rfl⟩) (fun hHeld => ?_)
      clear hK K
      replace XD := Lib.hid (XD.out.to B6.out)
      replace ZD := Lib.hid (ZD.out.to B6.out)
      replace RC := Lib.hid (RC.out.to B6.out)
      replace OD := Lib.hid (OD.out.to (R := fun _ => False) (Keep.of_below B6.out) (fun _ hh => hh.elim))
      have HSZ := Lib.hid BD.out.size
      have HSZ6 := Lib.hid B6.out.size
      replace BD := Lib.hid (BD.out.trans (B6.out.mono BD.out.size))
      clear RW
      refine wpAnyH_ready (rs := [6]) (by kernel_rfl) (by simp) ?_
      refine AllReadyH.cons rfl (fun K hK => ?_) AllReadyH.nil
      go_simp
      refine (wCloneC v.ac v.nc v.kc c.cs w6 RC.out HNC.out).mono ?_
      rintro e w7 ⟨A7, c7, rfl, hown7, hb7⟩
      have O7 := Lib.hid hown7
      have B7 := Lib.hid hb7
      clear hown7 hb7 hHeld
      go_wp2_with fail
      refine hK.out _ _ (⟨(XD.out.to B7.out).at (j := 0) rfl, (XD.out.to B7.out).at (j := 2) rfl⟩) (fun hHeld => ?_)
      clear hK K
      replace XD := Lib.hid (XD.out.to B7.out)
      replace ZD := Lib.hid (ZD.out.to B7.out)
      replace OD := Lib.hid (OD.out.to (R := fun _ => False) (Keep.of_below B7.out) (fun _ hh => hh.elim))
      replace O6 := Lib.hid (own_bv O6.out B7.out)
      replace BD := Lib.hid (BD.out.trans (B7.out.mono BD.out.size))
      have BW7 := Lib.hid (BW.out.trans (BD.out.mono BW.out.size))
      clear RC B6 B7 BW
      have z0 := ZD.out.at (j := 0) rfl
      have z1 := ZD.out.at (j := 1) rfl
      have z2 := ZD.out.at (j := 2) rfl
      have f0 := ZD.out.fz 0
      have f1 := ZD.out.fz 1
      have f2 := ZD.out.fz 2
      have hK := Keep.sets (R := (· = w.heap.size + 1)) rfl [.slice A6 v.nw c6, .slice A v.np kc, .slice A7 v.nc c7] 0 (Keep.refl _ w7)
      have XS := Lib.hid (XD.out.kept hK (fun hh => by omega))
      have P9 := Lib.hid (ZD.out.sets [.slice A6 v.nw c6, .slice A v.np kc, .slice A7 v.nc c7] rfl)
      have B9 := Lib.hid (below_sets (Nat.le_succ w.heap.size) [.slice A6 v.nw c6, .slice A v.np kc, .slice A7 v.nc c7] 0 BW7.out)
      have HC : Hid (OwCf (setsC w7 (w.heap.size + 1) 0 [.slice A6 v.nw c6, .slice A v.np kc, .slice A7 v.nc c7]) w.heap.size ⟨A6, v.nw, c6, A, v.np, kc, A7, v.nc, c7⟩ c) := by
        (show OwCf _ _ _ _)
        have hs := S2.out
        have h1 := HSZ.out
        have h2 := HSZ6.out
        have hR : ∀ k, (· = w.heap.size + 1) k → k < w2.heap.size := fun k hk => by (show k < _); have : k = w.heap.size + 1 := hk; omega
        refine ⟨?_, ?_⟩
        · exact (OwCf.of_rows (B := w2.heap.size) (w := setsC w7 (w.heap.size + 1) 0 [.slice A6 v.nw c6, .slice A v.np kc, .slice A7 v.nc c7]) (v := ⟨A6, v.nw, c6, A, v.np, kc, A7, v.nc, c7⟩) (own_moV (own_tv O6.out hK (fun k hk => .inl (by have := hR k hk; omega))) h1) (OD.out.to hK (fun k hk => .inl (hR k hk))) HQ.out (own_moV (own_tv O7.out hK (fun k hk => .inl (by have := hR k hk; omega))) (Nat.le_trans h1 h2))).rd
        · exact (OwCf.of_rows (B := w2.heap.size) (w := setsC w7 (w.heap.size + 1) 0 [.slice A6 v.nw c6, .slice A v.np kc, .slice A7 v.nc c7]) (v := ⟨A6, v.nw, c6, A, v.np, kc, A7, v.nc, c7⟩) (own_moV (own_tv O6.out hK (fun k hk => .inl (by have := hR k hk; omega))) h1) (OD.out.to hK (fun k hk => .inl (hR k hk))) HQ.out (own_moV (own_tv O7.out hK (fun k hk => .inl (by have := hR k hk; omega))) (Nat.le_trans h1 h2))).sp.mono (by omega)
      clear hK
      refine wpAnyH_take (i := 7) (v := ?_) rfl (by kernel_rfl) (by kernel_rfl) (by kernel_rfl) (fun _ _ _ h => h) (Or.inl ⟨by rfl, ?_⟩) (by assumption) ?_
      rotate_left 1
      · intro w hSw; (try dsimp only at hSw); go_simp; (try with_reducible rfl)
      simp only [Act.put, List.getElem_toArray, List.getElem_cons_zero, List.getElem_cons_succ, List.setIfInBounds_toArray, List.set_cons_zero, List.set_cons_succ]
      refine wpAnyH_ready (rs := [8]) (by kernel_rfl) (by simp) ?_
      refine AllReadyH.cons rfl (fun K hK => ?_) AllReadyH.nil
      go_simp
      refine hK.out _ _ (⟨XS.out.at (j := 0) rfl, XS.out.at (j := 2) rfl⟩) (fun hHeld => ?_)
      clear hK K
      refine wpAnyH_done (by kernel_rfl) ?_ _
      clear hHeld
      go_wp2_with fail
      change bodyPost _ _ _ _ _ (setsC w7 (w.heap.size + 1) 0 [.slice A6 v.nw c6, .slice A v.np kc, .slice A7 v.nc c7])
      generalize setsC w7 (w.heap.size + 1) 0 [.slice A6 v.nw c6, .slice A v.np kc, .slice A7 v.nc c7] = w9 at *
      exact bodyPost_ret (res_cf1 rfl _ _ (w.heap.size + 1) _ _ _ rfl P9.out) rfl ⟨⟨A6, v.nw, c6, A, v.np, kc, A7, v.nc, c7⟩, rfl, HC.out, B9.out⟩
end
end Go.Proofs.Ytljgliagciblbaa
