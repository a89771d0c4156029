/- Small words for all layers from 4 on: what is handed back in memory of its own, of whatever block (OwR, RetR); appends onto the row that '[]byte(s)' made (OwnG); a string as bytes; what a call leaves that writes some blocks of an object (Keep). No program is named but by its types. -/
import Derived.Test.YtffdjnhhmfpkgaaGreatTz
import Derived.Test.YtffdjnhhmfpkgaaGreatRB
import Derived.Test.YtffdjnhhmfpkgaaGreatRow
import Derived.Lib.ConvBytes
import Derived.Lib.SmallJoins
namespace Go.Proofs.YtffdjnhhmfpkgaaGreat
set_option maxRecDepth 1000000
set_option maxHeartbeats 8000000
open Go.RowKit
set_option linter.unusedVariables false
theorem xor_u8 (a b : UInt8) : bits .xor .u8 (a.toNat : Int) (b.toNat : Int) = ((a ^^^ b).toNat : Int) := by
 rw [UInt8.toNat_xor]
 exact u8_xor_nat _ _ a.toNat_lt b.toNat_lt
theorem u8_of {z : Int} (h0 : 0 ≤ z) (h : z < 256) : ∃ x : UInt8, z = (x.toNat : Int) := by
 refine ⟨UInt8.ofNat z.toNat, ?_⟩
 rw [← u8_mod]
 omega
def OwR (w : World) (B : Nat) (A : Option Addr) (n : Nat) (bs : List UInt8) : Prop :=
 Rd w w.heap.size A n bs ∧ (0 < n → ∃ b o, A = some ⟨b, o, none⟩ ∧ B ≤ b ∧ ∀ j, j < n → w.frozen? ⟨b, o + j, none⟩ = false)
def RetR (w : World) (bs : List UInt8) (e : Ending) (w' : World) : Prop :=
 ∃ A n c, e = .returned (.slice A n c) ∧ OwR w' w.heap.size A n bs ∧ n ≤ c ∧ c ≤ 9223372036854775807 ∧ Below w.heap.size w w'
theorem OwR.of_own {w : World} {B : Nat} {T : TypeId} {A : Option Addr} {n c : Nat} {bs : List UInt8} (h : w.ownsRow B T 1 (.slice A n c) n (bs.map bval)) : OwR w B A n bs := by
 refine ⟨Rd.of_own h, fun hn => ?_⟩
 obtain ⟨g, rfl, hg⟩ := own_head h hn
 exact ⟨g, 0, rfl, hg, fun j hj => by rw [Nat.zero_add]; exact (own_cell h hj).2⟩
theorem RetB.toR {T : TypeId} {w w' : World} {bs : List UInt8} {e : Ending} (h : RetB T w bs e w') : RetR w bs e w' := by
 obtain ⟨A, n, c, rfl, hown, hb⟩ := h
 obtain ⟨h1, h2⟩ := own_cap hown
 exact ⟨A, n, c, rfl, OwR.of_own hown, h1, h2, hb⟩
theorem OwR.mono {w : World} {B B' n : Nat} {A : Option Addr} {bs : List UInt8} (h : OwR w B A n bs) (hB : B' ≤ B) : OwR w B' A n bs :=
 ⟨h.1, fun hn => by obtain ⟨b, o, e, hb, hf⟩ := h.2 hn; exact ⟨b, o, e, by omega, hf⟩⟩
theorem RetR.from {w0 w w' : World} {bs : List UInt8} {e : Ending} (hb : Below w0.heap.size w0 w) (h : RetR w bs e w') : RetR w0 bs e w' := by
 obtain ⟨A, n, c, rfl, ho, h1, h2, hbel⟩ := h
 exact ⟨A, n, c, rfl, ho.mono hb.size, h1, h2, hb.trans (hbel.mono hb.size)⟩
theorem RetR.is {w w' : World} {bs bs' : List UInt8} {e : Ending} (h : RetR w bs e w') (hb : bs = bs') : RetR w bs' e w' := hb ▸ h
theorem frozen_below {B : Nat} {w w' : World} {a : Addr} (hb : Below B w w') (h : a.block < B) : w'.frozen? a = w.frozen? a := World.frozen?_of_block (hb.block a.block h)
theorem OwR.to {w w' : World} {B n : Nat} {A : Option Addr} {bs : List UInt8} (h : OwR w B A n bs) (hb : Below w.heap.size w w') : OwR w' B A n bs :=
 ⟨h.1.to hb, fun hn => by
  obtain ⟨b, o, e, hB, hf⟩ := h.2 hn
  obtain ⟨b', o', e', hlt, _⟩ := h.1.2 hn
  rw [e] at e'
  injection e' with e'; injection e' with e1 e2
  subst e1
  exact ⟨b, o, e, hB, fun j hj => (frozen_below hb hlt).trans (hf j hj)⟩⟩
theorem OwR.cell {w : World} {B n j : Nat} {A : Option Addr} {bs : List UInt8} (h : OwR w B A n bs) (hj : j < n) :
  ∃ b o, A = some ⟨b, o, none⟩ ∧ B ≤ b ∧ w.cell? ⟨b, o + j, none⟩ = some (.int .u8 (nth bs j : Int)) ∧ w.frozen? ⟨b, o + j, none⟩ = false := by
 obtain ⟨b, o, rfl, hB, hf⟩ := h.2 (by omega)
 exact ⟨b, o, rfl, hB, h.1.at hj, hf j hj⟩
theorem OwR.set {w : World} {B n b o j : Nat} {bs : List UInt8} (h : OwR w B (some ⟨b, o, none⟩) n bs) (hj : j < n) (y : UInt8) {z : Int} (hz : z = (y.toNat : Int)) :
  OwR (w.setCell ⟨b, o + j, none⟩ (.int .u8 z)) B (some ⟨b, o, none⟩) n (bs.set j y) := by
 subst hz
 have hl := h.1.1
 refine ⟨⟨by simpa using hl, fun hn => ?_⟩, fun hn => ?_⟩
 ·obtain ⟨b', o', e, hb, hc⟩ := h.1.2 hn
  injection e with e; injection e with e1 e2
  subst e1; subst e2
  refine ⟨b, o, rfl, by simpa using hb, fun i hi => ?_⟩
  by_cases hij : i = j
  ·subst hij
   rw [World.cell?_setCell_same (h := hc i hi)]
   simp [nth, List.getD, hl, hi]
  ·rw [World.cell?_setCell_other (h := by intro e; injection e with _ e; omega), hc i hi]
   have : nth (bs.set j y) i = nth bs i := by
    unfold nth
    simp [List.getD, Ne.symm hij]
   rw [this]
 ·obtain ⟨b', o', e, hB, hf⟩ := h.2 hn
  exact ⟨b', o', e, hB, fun i hi => by rw [World.frozen?_setCell]; exact hf i hi⟩
def IncG (B n : Nat) (A : Option Addr) (w : World) (i : Value) (wr : World) : Prop :=
 ∃ (k : Nat) (bs : List UInt8), k ≤ n ∧ i = .int .i64 (k : Int) ∧ OwR wr B A n bs ∧ Below B w wr
theorem data_len (s : ByteArray) : s.data.toList.length = s.size := by
 rw [Array.length_toList]; rfl
theorem rd_bytesWorld (w : World) (e : TypeId) (s : ByteArray) : Rd (Lib.bytesWorld w e s) (Lib.bytesWorld w e s).heap.size (some ⟨w.heap.size, 0, none⟩) s.size s.data.toList := by
 refine ⟨data_len s, fun hn => ⟨w.heap.size, 0, rfl, by rw [Lib.bytesWorld_size]; omega, fun j hj => ?_⟩⟩
 rw [Nat.zero_add, Lib.bytesWorld_cell w e s j hj]
 rfl
def OwnG (w : World) (B : Nat) (U : TypeId) (v : Value) (n : Nat) (bs : List UInt8) : Prop :=
 bs.length = n ∧ ∃ g cap cur fz, v = .slice (some ⟨g, 0, none⟩) n cap ∧ B ≤ g ∧ w.heap[g]? = some (.cells cur U fz) ∧ (cur.size ≤ fz.1 ∨ fz.2 = 0) ∧ n ≤ cap ∧ cap ≤ maxLen ∧ cur.size = cap ∧ cur.toList.take n = bs.map bval
theorem OwnG.bytesWorld {P : Program} (w : World) (B : Nat) (U : TypeId) (s : ByteArray) (hs : s.size ≤ 1000000) (hB : B ≤ w.heap.size) :
  OwnG (Lib.bytesWorld w U s) B U (.slice (some ⟨w.heap.size, 0, none⟩) s.size (grownCap w s.size 0 U)) s.size s.data.toList := by
 have h1 := grownCap_ge w s.size 0 U
 have h2 := grownCap_le_maxLen w s.size 0 U (by unfold maxLen; omega)
 refine ⟨data_len s, w.heap.size, _, _, _, rfl, hB, Lib.bytesWorld_at_new w U s, .inl (Nat.le_refl _), h1, h2, ?_, ?_⟩
 ·simp only [Lib.bytesCells, Array.size_append, Array.size_map, Array.size_replicate]
  have : s.data.size = s.size := rfl
  omega
 ·simp only [Lib.bytesCells, Array.toList_append, Array.toList_map]
  rw [List.take_left' (by rw [List.length_map, data_len])]
  rfl
theorem OwnG.rd {w : World} {B n : Nat} {U : TypeId} {A : Option Addr} {c : Nat} {bs : List UInt8} (h : OwnG w B U (.slice A n c) n bs) : Rd w w.heap.size A n bs ∧ n ≤ c ∧ c ≤ 9223372036854775807 := by
 obtain ⟨hl, g, cap, cur, fz, e, hB, hg, hz, h1, h2, h3, h4⟩ := h
 injection e with e1 e2 e3
 subst e1; subst e3
 refine ⟨⟨hl, fun hn => ⟨g, 0, rfl, heap_at_lt hg, fun j hj => ?_⟩⟩, h1, by unfold maxLen at h2; omega⟩
 rw [Nat.zero_add, cell_of_row _ _ j _ _ fz hg]
 have hj' : j < bs.length := by omega
 have := congrArg (fun l => l[j]?) h4
 simp only [List.getElem?_take, if_pos hj, List.getElem?_map, List.getElem?_eq_getElem hj', Option.map_some] at this
 rw [← Array.getElem?_toList, this, nth_of_lt hj']
 rfl
theorem OwnG.below {w w' : World} {B n : Nat} {U : TypeId} {v : Value} {bs : List UInt8} (h : OwnG w B U v n bs) (hb : Below w.heap.size w w') : OwnG w' B U v n bs := by
 obtain ⟨hl, g, cap, cur, fz, e, hB, hg, rest⟩ := h
 exact ⟨hl, g, cap, cur, fz, e, hB, (hb.block g (heap_at_lt hg)).trans hg, rest⟩
theorem OwnG.slice {w : World} {B n : Nat} {U : TypeId} {v : Value} {bs : List UInt8} (h : OwnG w B U v n bs) : ∃ A c, v = .slice A n c := by
 obtain ⟨hl, g, cap, cur, fz, e, _⟩ := h
 exact ⟨_, _, e⟩
theorem run_storeCells_g (P : Program) (g o : Nat) (t : TypeId) (fz : Nat × Nat) : ∀ (vs : List Value) (i : Nat) (cur : Array Value) (w : World), w.heap[g]? = some (.cells cur t fz) → (cur.size ≤ fz.1 ∨ fz.2 = 0) → o + i + vs.length ≤ cur.size → (∀ v ∈ vs, v.oneCell' = true) →
  (storeCells ⟨g, o, none⟩ vs i).run P w = .ok () (w.setRow g (cur.toList.take (o + i) ++ vs ++ cur.toList.drop (o + i + vs.length)).toArray)
 | [], i, cur, w, hg, _, _, _ => by
  simp only [storeCells, List.append_nil, List.length_nil, Nat.add_zero, List.take_append_drop, Array.toArray_toList]
  rw [setRow_self w g cur t fz hg]
  rfl
 | v :: rest, i, cur, w, hg, hfz, hl, h1 => by
  have hi : o + i < cur.size := by simp at hl; omega
  have hadd : (⟨g, o, none⟩ : Addr).add i = ⟨g, o + i, none⟩ := by unfold Addr.add; split <;> simp_all
  have hcell : w.cell? ⟨g, o + i, none⟩ = some cur[o + i] := by simp [World.cell?, hg, hi]
  have hfro : w.frozen? ⟨g, o + i, none⟩ = false := by
   obtain ⟨lo, hi'⟩ := fz
   simp only [World.frozen?, hg, Bool.and_eq_false_iff, decide_eq_false_iff_not]
   simp only at hfz
   omega
  have hst : (store ((⟨g, o, none⟩ : Addr).add i) v).run P w = .ok () (w.setRow g (cur.setIfInBounds (o + i) v)) := by
   rw [hadd, run_store P w _ v _ (h1 v (by simp)), hcell]
   simp [hfro, setCell_eq_setRow w g (o + i) cur t fz v hg]
  have ih := run_storeCells_g P g o t fz rest (i + 1) (cur.setIfInBounds (o + i) v) (w.setRow g (cur.setIfInBounds (o + i) v)) (setRow_heap w g cur _ t _ hg) (by simpa using hfz) (by simp at hl ⊢; omega) (fun x hx => h1 x (by simp [hx]))
  simp only [storeCells, Sem.run_bind, hst, Result.andThen_ok, ih, setRow_setRow]
  congr 3
  have e := list_seg_step cur.toList (o + i) v rest (by simp at hl ⊢; omega)
  simpa [Array.toList_setIfInBounds, Nat.add_assoc] using e
theorem run_append_g {P : Program} {T U : TypeId} (L : U8 P T U) (ty : TypeId) {w : World} {B n m c : Nat} {v : Value} {bs news : List UInt8} {ad : Addr} (hown : OwnG w B U v n bs)
  (hl : news.length = m) (hnews : ∀ j u, (news.map bval)[j]? = some u → w.cell? (ad.add j) = some u) (hB : B ≤ w.heap.size) (hk : n + m ≤ 140737488355328) :
  ∃ v' w', (Builtin.append_ #[T, T] ty #[v, .slice (some ad) m c]).run P w = .ok v' w' ∧ OwnG w' B U v' (n + m) (bs ++ news) ∧ Below B w w' ∧ w.heap.size ≤ w'.heap.size := by
 obtain ⟨i0, hi, hz0, hz1, hz2⟩ := info_parts L.info
 obtain ⟨hlen, g, cap, cur, fz, rfl, hBg, hg, hfz, h1, h2, h3, h4⟩ := hown
 have hml : (news.map bval).length = m := by simpa using hl
 have hbl : (bs.map bval).length = n := by simpa using hlen
 by_cases hroom : n + m ≤ cap
 ·have hf := run_firstCells_some (P := P) w 1 m ad m c (news.map bval) (by simpa using hml) hnews
  have hst := run_storeCells_g P g n U fz (news.map bval) 0 cur w hg hfz (by rw [hml]; omega) (bvals_one _)
  simp only [Nat.add_zero] at hst
  refine ⟨.slice (some ⟨g, 0, none⟩) (n + m) cap, w.setRow g (cur.toList.take n ++ news.map bval ++ cur.toList.drop (n + (news.map bval).length)).toArray, ?_, ⟨by rw [List.length_append, hlen, hl], g, cap, (cur.toList.take n ++ news.map bval ++ cur.toList.drop (n + (news.map bval).length)).toArray, fz, rfl, hBg, setRow_heap w g cur _ U fz hg, ?_, hroom, h2, ?_, ?_⟩, ⟨rfl, rfl, rfl, by simp, fun k hk => setRow_other w g k _ (by omega)⟩, by simp⟩
  ·simp [Builtin.append_, run_underlying L.ul, sizeOf, typeInfo, hi, hz1, Builtin.lenOf, hroom, hf, Addr.add_lit, hst]
  ·rcases hfz with h | h
   ·left
    simp only [List.size_toArray, List.length_append, List.length_take, List.length_drop, Array.length_toList, hml]
    omega
   ·exact .inr h
  ·simp only [List.size_toArray, List.length_append, List.length_take, List.length_drop, Array.length_toList, hml]
   omega
  ·show List.take (n + m) _ = _
   rw [h4, List.map_append]
   exact List.take_left' (by rw [List.length_append, hbl, hml])
 ·have holds : ∀ j u, (bs.map bval)[j]? = some u → w.cell? ((⟨g, 0, none⟩ : Addr).add j) = some u := by
   intro j u hu
   have hadd : (⟨g, 0, none⟩ : Addr).add j = ⟨g, j, none⟩ := by unfold Addr.add; split <;> simp_all
   rw [hadd, cell_of_row w g j cur U fz hg]
   rw [← h4, List.getElem?_take] at hu
   split at hu
   ·simpa using hu
   ·cases hu
  have hr := run_append_grow (P := P) w T ty U i0 (.int .u8 0) L.ul hi hz0 ⟨g, 0, none⟩ n cap (bs.map bval) (by rw [hz1]; simpa using hbl) holds ad m c (news.map bval) (by rw [hz1]; simpa using hml) hnews (by omega) (by omega) (by rw [hz2]; exact growslice_fits (by omega) (by omega))
  have hge := grownCap_ge w (n + m) cap U
  have hcm2 : grownCap w (n + m) cap U ≤ maxLen := grownCap_le_maxLen w (n + m) cap U (by unfold maxLen; omega)
  refine ⟨_, _, hr, ⟨by rw [List.length_append, hlen, hl], w.heap.size, _, _, (0, 0), rfl, hB, heap_alloc_new w.drew _, .inr rfl, hge, hcm2, ?_, ?_⟩, ⟨rfl, rfl, rfl, by simp, fun k hk => Below.heap_alloc w.drew _ k (Nat.lt_of_lt_of_le hk hB)⟩, by simp⟩
  ·have hz1 : (Value.int IntKind.u8 0).cells.size = 1 := rfl
   simp only [Array.size_append, List.size_toArray, size_zeroCells, hz1, hbl, hml]
   omega
  ·simp only [Array.toList_append, List.append_assoc]
   rw [← List.append_assoc, List.map_append]
   exact List.take_left' (by rw [List.length_append]; simp [hlen, hl])
theorem wpList_pushG {P : Program} {T U : TypeId} (L : U8 P T U) {ops : Array Oper} {rest : List Oper} {o : Oper} {a : Act} {Q : Exit → Act → World → Prop} (hgd : o.guard = none) (s x : Operand)
  (ho : o.op = .call { callee := .builtin .append, args := #[s, x], argTypes := #[T, T] }) {B B' n m c : Nat} {A : Option Addr} {w wr : World} {v : Value} {bs news : List UInt8} (hs : a.eval s = v)
  (hx : a.eval x = .slice A m c) (hm : 0 < m) (hown : OwnG wr B U v n bs) (hr : Rd wr B' A m news) (hb : Below B w wr) (hB : B ≤ wr.heap.size) (hk : n + m ≤ 140737488355328)
  (h : ∀ v' w1, OwnG w1 B U v' (n + m) (bs ++ news) → Below B w w1 → wr.heap.size ≤ w1.heap.size → wpList P ops Q rest (a.put o.dst v') w1) : wpList P ops Q (o :: rest) a wr := by
 obtain ⟨b, of, rfl, _, hc⟩ := hr.2 hm
 have hlen : news.length = m := hr.1
 obtain ⟨v', w', hrun, h2, h3, h4⟩ := run_append_g L o.type (c := c) (ad := ⟨b, of, none⟩) hown hlen (fun j u hu => by
  have hj : j < m := by
   rcases Nat.lt_or_ge j m with g | g
   ·exact g
   ·rw [List.getElem?_eq_none (by simpa [hlen] using g)] at hu; cases hu
  have e : (⟨b, of, none⟩ : Addr).add j = ⟨b, of + j, none⟩ := by unfold Addr.add; split <;> simp_all
  rw [e, hc j hj, ← hu, List.getElem?_map, List.getElem?_eq_getElem (by omega), nth_of_lt (by omega)]
  rfl) hB hk
 refine wpList_plain hgd fun K hK => ?_
 unfold Oper.wp execOp
 simp only [ho, resolve, invoke, builtin, Sem.run_bind, Sem.run_pure, Result.andThen_ok, List.map_toArray, List.map_cons, List.map_nil, hs, hx, hrun]
 exact hK _ _ (h v' w' h2 (hb.trans h3) h4)
structure Keep (R : Nat → Prop) (w w' : World) : Prop where
 os : w'.os = w.os
 tape : w'.tape = w.tape
 output : w'.output = w.output
 size : w.heap.size ≤ w'.heap.size
 block : ∀ k, k < w.heap.size → ¬ R k → w'.heap[k]? = w.heap[k]?
theorem Keep.refl (R : Nat → Prop) (w : World) : Keep R w w := ⟨rfl, rfl, rfl, Nat.le_refl _, fun _ _ _ => rfl⟩
theorem Keep.trans {R : Nat → Prop} {a b c : World} (h : Keep R a b) (h' : Keep R b c) : Keep R a c :=
 ⟨h'.os.trans h.os, h'.tape.trans h.tape, h'.output.trans h.output, Nat.le_trans h.size h'.size, fun k hk hr => (h'.block k (Nat.lt_of_lt_of_le hk h.size) hr).trans (h.block k hk hr)⟩
theorem Keep.of_below {R : Nat → Prop} {w w' : World} (h : Below w.heap.size w w') : Keep R w w' := ⟨h.os, h.tape, h.output, h.size, fun k hk _ => h.block k hk⟩
theorem Keep.more {R R' : Nat → Prop} {w w' : World} (h : Keep R w w') (hr : ∀ k, R k → R' k) : Keep R' w w' := ⟨h.os, h.tape, h.output, h.size, fun k hk hn => h.block k hk (fun h => hn (hr k h))⟩
theorem Keep.below {R : Nat → Prop} {B : Nat} {a w w' : World} (hb : Below B a w) (h : Keep R w w') (hB : B ≤ w.heap.size) (hr : ∀ k, R k → B ≤ k) : Below B a w' :=
 hb.trans ⟨h.os, h.tape, h.output, h.size, fun k hk => h.block k (Nat.lt_of_lt_of_le hk hB) (fun hk' => by have := hr k hk'; omega)⟩
theorem Keep.new {R : Nat → Prop} {a w w' : World} (h : Keep R a w) (h' : Keep (fun k => R k ∨ a.heap.size ≤ k) w w') : Keep R a w' :=
 ⟨h'.os.trans h.os, h'.tape.trans h.tape, h'.output.trans h.output, Nat.le_trans h.size h'.size, fun k hk hr =>
  (h'.block k (Nat.lt_of_lt_of_le hk h.size) (fun h => by rcases h with h | h; exact hr h; omega)).trans (h.block k hk hr)⟩
theorem Keep.setCell {R : Nat → Prop} {a w : World} (h : Keep R a w) (p : Addr) (v : Value) (hr : R p.block) : Keep R a (w.setCell p v) :=
 ⟨h.os, h.tape, h.output, by simpa using h.size, fun k hk hn => (Below.heap_setCell w p v k (by intro e; subst e; exact hn hr)).trans (h.block k hk hn)⟩
theorem Keep.alloc {R : Nat → Prop} {a w : World} (h : Keep R a w) (o : Obj) : Keep R a (w.alloc o) := h.trans (Keep.of_below ((Below.refl _ _).alloc (Nat.le_refl _) o))
theorem Keep.drewN {R : Nat → Prop} {a w : World} (h : Keep R a w) (n : Nat) : Keep R a (w.drewN n) := ⟨h.os, h.tape, h.output, h.size, h.block⟩
theorem Keep.drew {R : Nat → Prop} {a w : World} (h : Keep R a w) : Keep R a w.drew := ⟨h.os, h.tape, h.output, h.size, h.block⟩
theorem Keep.cell {R : Nat → Prop} {w w' : World} (h : Keep R w w') {a : Addr} (hl : a.block < w.heap.size) (hn : ¬ R a.block) : w'.cell? a = w.cell? a := World.cell?_of_block (h.block _ hl hn)
def Off (A : Option Addr) (n : Nat) (R : Nat → Prop) : Prop := 0 < n → ∀ b o, A = some ⟨b, o, none⟩ → ¬ R b
theorem Rd.kept {R : Nat → Prop} {w w' : World} {n : Nat} {A : Option Addr} {bs : List UInt8} (h : Rd w w.heap.size A n bs) (hk : Keep R w w') (ho : Off A n R) : Rd w' w'.heap.size A n bs :=
 ⟨h.1, fun hn => by
  obtain ⟨b, o, e, hb, hc⟩ := h.2 hn
  exact ⟨b, o, e, Nat.lt_of_lt_of_le hb hk.size, fun j hj => by rw [← hc j hj]; exact hk.cell hb (ho hn b o e)⟩⟩
theorem OwR.kept {R : Nat → Prop} {w w' : World} {B n : Nat} {A : Option Addr} {bs : List UInt8} (h : OwR w B A n bs) (hk : Keep R w w') (ho : Off A n R) : OwR w' B A n bs :=
 ⟨h.1.kept hk ho, fun hn => by
  obtain ⟨b, o, e, hB, hf⟩ := h.2 hn
  obtain ⟨b', o', e', hlt, _⟩ := h.1.2 hn
  rw [e] at e'
  injection e' with e'; injection e' with e1 e2
  subst e1
  exact ⟨b, o, e, hB, fun j hj => (World.frozen?_of_block (hk.block _ hlt (ho hn b o e))).trans (hf j hj)⟩⟩
theorem OwR.off {w : World} {B n : Nat} {A : Option Addr} {bs : List UInt8} (h : OwR w B A n bs) {R : Nat → Prop} (hr : ∀ k, R k → k < B) : Off A n R := fun hn b o e hb => by
 obtain ⟨b', o', e', hB, _⟩ := h.2 hn
 rw [e] at e'
 injection e' with e'; injection e' with e1 _
 have := hr b hb
 omega
theorem Rd.off {w : World} {n : Nat} {A : Option Addr} {bs : List UInt8} {B : Nat} (h : Rd w B A n bs) {R : Nat → Prop} (hr : ∀ k, R k → B ≤ k) : Off A n R := fun hn b o e hb => by
 obtain ⟨b', o', e', hB, _⟩ := h.2 hn
 rw [e] at e'
 injection e' with e'; injection e' with e1 _
 have := hr b hb
 omega
end Go.Proofs.YtffdjnhhmfpkgaaGreat