/- Layer 16's laws: a row of records of the call's own; a disk with as many records, one behind the other (citadellaw16.rows). -/
import Derived.Test.YtffdjnhhmfpkgaaGreatTz
import Derived.Test.YtffdjnhhmfpkgaaGreatRC
import Derived.Test.YtffdjnhhmfpkgaaGreatCmS
import Derived.Test.YtffdjnhhmfpkgaaGreatCmPd
import Derived.Great.BuildSlice
import Derived.Great.FillDense
namespace Go.Proofs.YtffdjnhhmfpkgaaGreat
set_option maxRecDepth 1000000
set_option maxHeartbeats 8000000
open Go.RowKit
set_option linter.unusedVariables false
set_option linter.unusedSimpArgs false
theorem addr_addC (b o j : Nat) : (⟨b, o, none⟩ : Addr).add j = ⟨b, o + j, none⟩ := by
 unfold Addr.add
 split <;> simp_all
def rcsV (l : List Rcd) : List Value := l.flatMap rcL
theorem rcsV_len {l : List Rcd} (h : ∀ r ∈ l, r.hash.length = 32) : (rcsV l).length = l.length * 36 := by
 induction l with
 | nil => rfl
 | cons r l ih =>
  have := ih (fun x hx => h x (List.mem_cons_of_mem _ hx))
  simp only [rcsV, List.flatMap_cons, List.length_append, List.length_cons] at this ⊢
  rw [this, rcL_len (h r (List.mem_cons_self ..))]
  omega
theorem rcsV_at : ∀ {l : List Rcd}, (∀ r ∈ l, r.hash.length = 32) → ∀ {j i : Nat} {v : Value}, j < l.length → (rcL (l.getD j Rcd.zero))[i]? = some v → (rcsV l)[j * 36 + i]? = some v
 | [], _, j, i, v, hj, _ => absurd hj (Nat.not_lt_zero _)
 | r :: l, h, 0, i, v, _, hv => by
  show (rcL r ++ rcsV l)[0 * 36 + i]? = some v
  have hv' : (rcL r)[i]? = some v := hv
  rw [Nat.zero_mul, Nat.zero_add, List.getElem?_append_left]
  ·exact hv'
  ·rcases Nat.lt_or_ge i (rcL r).length with q | q
   ·exact q
   ·rw [List.getElem?_eq_none q] at hv'; cases hv'
 | r :: l, h, j + 1, i, v, hj, hv => by
  have hr := rcL_len (h r (List.mem_cons_self ..))
  have := rcsV_at (l := l) (fun x hx => h x (List.mem_cons_of_mem _ hx)) (j := j) (i := i) (v := v) (by simpa using hj) (by simpa using hv)
  show (rcL r ++ rcsV l)[(j + 1) * 36 + i]? = some v
  rw [List.getElem?_append_right (by rw [hr]; omega), hr, show (j + 1) * 36 + i - 36 = j * 36 + i by omega]
  exact this
theorem rcsV_app (l : List Rcd) (q : Rcd) : rcsV (l ++ [q]) = rcsV l ++ rcL q := by simp [rcsV]
theorem own_rc {w : World} {B n c : Nat} {A : Option Addr} {l : List Rcd} (h : w.ownsRow B 34 36 (.slice A n c) n (rcsV l)) (hl : l.length = n) (hh : ∀ r ∈ l, r.hash.length = 32) (hn : 0 < n) :
  ∃ g, A = some ⟨g, 0, none⟩ ∧ B ≤ g ∧ g < w.heap.size ∧ ∀ j, j < n → w.rangeAt g (j * 36) (rcL (l.getD j Rcd.zero)) := by
 obtain ⟨g, cap, hv, hg, hlt⟩ := h.form hn
 have hA : A = some ⟨g, 0, none⟩ := by injection hv
 subst hA
 refine ⟨g, rfl, hg, hlt, fun j hj i v hv' => ?_⟩
 have := h.cells (g := g) rfl (j * 36 + i) v (rcsV_at hh (by omega) hv')
 rw [addr_addC] at this
 simpa using this
theorem own_slice36 {w : World} {base : Nat} {T : TypeId} {v : Value} {n : Nat} {xs : List Value} (h : w.ownsRow base T 36 v n xs) : ∃ A c, v = .slice A n c := by
 rcases h.2 with ⟨rfl, rfl⟩ | ⟨g, cap, cur, rfl, _⟩
 ·exact ⟨_, _, rfl⟩
 ·exact ⟨_, _, rfl⟩
theorem own_kept36 {R : Nat → Prop} {w w' : World} {B : Nat} {T : TypeId} {v : Value} {n : Nat} {xs : List Value} (h : w.ownsRow B T 36 v n xs) (hk : Keep R w w') (hn : ∀ b, v.ownBlock = some b → ¬ R b) : w'.ownsRow B T 36 v n xs := by
 refine ⟨h.1, ?_⟩
 rcases h.2 with h | ⟨g, cap, cur, e, hg, hh, h⟩
 ·exact .inl h
 ·refine .inr ⟨g, cap, cur, e, hg, ?_, h⟩
  rw [hk.block g (Array.getElem?_eq_some_iff.1 hh).1 (hn g (by rw [e]; rfl))]
  exact hh
theorem own_lt36 {w : World} {B : Nat} {T : TypeId} {v : Value} {n : Nat} {xs : List Value} (h : w.ownsRow B T 36 v n xs) {b : Nat} (hb : v.ownBlock = some b) : B ≤ b ∧ b < w.heap.size := by
 rcases h.2 with ⟨rfl, _⟩ | ⟨g, cap, cur, rfl, hg, hh, _⟩
 ·cases hb
 ·simp only [Value.ownBlock, Option.some.injEq] at hb
  subst hb
  exact ⟨hg, (Array.getElem?_eq_some_iff.1 hh).1⟩
theorem own_below36 {w w' : World} {B : Nat} {T : TypeId} {v : Value} {n : Nat} {xs : List Value} (h : w.ownsRow B T 36 v n xs) (hb : Below w.heap.size w w') : w'.ownsRow B T 36 v n xs :=
 own_kept36 h (Keep.of_below hb) (fun _ _ h => h)
theorem own_cap36 {w : World} {B : Nat} {T : TypeId} {A : Option Addr} {n c : Nat} {xs : List Value} (h : w.ownsRow B T 36 (.slice A n c) n xs) : n ≤ c ∧ c ≤ 9223372036854775807 := by
 rcases h.2 with ⟨h, rfl⟩ | ⟨g, cap, cur, hv, _, _, h1, h2, _⟩
 ·injection h with _ _ h; omega
 ·injection hv with _ _ hv; subst hv; unfold maxLen at h2; omega
theorem rc_full : (Tryz.prog.info? 34).map (fun i => (i.zero, i.size, i.bytes)) = some (some (.agg (rcL Rcd.zero).toArray), 36, 64) := by kernel_rfl
theorem wpList_pushRc {ops : Array Oper} {rest : List Oper} {o : Oper} {a : Act} {Q : Exit → Act → World → Prop} (hgd : o.guard = none) (s x : Operand)
  (ho : o.op = .call { callee := .builtin .append, args := #[s, x], argTypes := #[65, 65] }) {B gx k : Nat} {wr : World} {v : Value} {l : List Rcd} {q : Rcd} (hs : a.eval s = v)
  (hx : a.eval x = .slice (some ⟨gx, 0, none⟩) 1 1) (hown : wr.ownsRow B 34 36 v k (rcsV l)) (hg : RB wr gx q) (hB : B ≤ wr.heap.size) (hl : k ≤ 1000)
  (h : ∀ v' w1, w1.ownsRow B 34 36 v' (k + 1) (rcsV (l ++ [q])) → Keep (fun k => v.ownBlock = some k) wr w1 → (∀ b, v'.ownBlock = some b → v.ownBlock = some b ∨ wr.heap.size ≤ b) → wpList Tryz.prog ops Q rest (a.put o.dst v') w1) : wpList Tryz.prog ops Q (o :: rest) a wr := by
 obtain ⟨i0, hi, hz0, hz1, hz2⟩ := info_parts rc_full
 have hql : (rcL q).length = 36 := rcL_len hg.1
 refine wpList_plain hgd fun K hK => ?_
 refine wp_append_lies _ s x 65 ho B 34 i0 (.agg (rcL Rcd.zero).toArray) 36 64 Tryz.underlying65 hi hz0 hz1 hz2 rfl (by decide) v k (rcsV l) hs hown ⟨gx, 0, none⟩ 1 1 (rcL q) hx (by rw [hql]) ?_ (rc_oneL q) (by decide) (by unfold maxLen; omega) (by omega) hB _ rfl ?_
 ·intro j u hu
  rw [addr_addC, Nat.zero_add]
  rw [cell_of_row _ _ _ _ _ _ hg.2]
  simpa using hu
 ·intro g cap w1 hown' hgrow hgl hlt
  have hk : Keep (fun k => v.ownBlock = some k) wr w1 := ⟨hgrow.os, hgrow.tape, hgrow.output, hgrow.size, fun k hk hn => hgrow.block k hk (fun e => hn e.symm)⟩
  refine hK _ _ (h _ w1 ?_ hk ?_)
  ·rw [rcsV_app]; exact hown'
  ·intro b hb
   simp only [Value.ownBlock, Option.some.injEq] at hb
   subst hb
   rcases hgl with hgl | hgl
   ·exact .inl hgl
   ·exact .inr (by omega)
theorem wpList_buildRc {P : Program} {T S : TypeId} {ops : Array Oper} {rest : List Oper} {o : Oper} {a : Act} {w : World} {Q : Exit → Act → World → Prop} (hg : o.guard = none) (x : Operand) (ho : o.op = .buildSlice S 1 #[(0, x)]) (cells : Array Value) (hx : a.eval x = .agg cells)
  (hu : P.underlying S = some (.slice T)) {z0 : Value} (hinfo : (P.info? T).map (fun i => (i.zero, i.size)) = some (some z0, 36)) (hc : cells.size = 36)
  (h : wpList P ops Q rest (a.put o.dst (.slice (some ⟨w.heap.size, 0, none⟩) 1 1)) (w.alloc (.cells cells T))) : wpList P ops Q (o :: rest) a w := by
 cases hie : P.info? T with
 | none => simp [hie] at hinfo
 | some ie =>
  simp only [hie, Option.map_some, Option.some.injEq, Prod.mk.injEq] at hinfo
  obtain ⟨hz, hs⟩ := hinfo
  refine wpList_buildSlice hg S T 1 _ ho cells ie z0 hu hie hz (by rw [hs]; decide) (by rw [hs]; decide) ?_ h
  have e1 : ((#[(0, x)] : Array (Nat × Operand)).map fun (i, x) => (i, a.eval x)).toList = (([.agg cells] : List Value).zipIdx 0).map fun x => (x.2, x.1) := by simp [hx]
  rw [e1, hs]
  obtain ⟨r, hr, hrs, hk⟩ := Great.fill_dense (s := 36) (by decide) [.agg cells] 0 ((Array.range (1 * 36)).map (z0.cells[· % z0.cells.size]!)) (fun v hv => by
   have hv' : v = .agg cells := by simpa using hv
   rw [hv']; exact hc) (by simp)
  rw [hr]
  congr 1
  apply Array.ext_getElem?
  intro k
  rw [hk k]
  by_cases hlt : k < 36
  ·rw [if_pos ⟨by omega, by simp; omega⟩]
   have e2 : k / 36 - 0 = 0 := by omega
   have e3 : k % 36 = k := Nat.mod_eq_of_lt hlt
   rw [e2, e3]
   rfl
  ·rw [if_neg (by simp; omega)]
   rw [Array.getElem?_eq_none (by simp; omega), Array.getElem?_eq_none (by omega)]
def rL (fr : Int) (l : List Rcd) (k : Nat) : List Rcd := (List.range k).map (rN fr l)
theorem rL_len (fr : Int) (l : List Rcd) (k : Nat) : (rL fr l k).length = k := by simp [rL]
theorem rL_succ (fr : Int) (l : List Rcd) (k : Nat) : rL fr l (k + 1) = rL fr l k ++ [rN fr l k] := by simp [rL, List.range_succ]
theorem rL_at {fr : Int} {l : List Rcd} {k j : Nat} (h : j < k) : (rL fr l k).getD j Rcd.zero = rN fr l j := by simp [rL, List.getD, h]
theorem rL_hash {fr : Int} {l : List Rcd} {k : Nat} (h : ∀ j, j < k → (rN fr l j).In) : ∀ r ∈ rL fr l k, r.hash.length = 32 := by
 intro r hr
 obtain ⟨j, hj, rfl⟩ := List.mem_map.1 hr
 exact (h j (List.mem_range.1 hj)).hash
structure RowsS (w0 w : World) (d : Nat) (F : Nat → Prop) (fr : Int) (l : List Rcd) (k : Nat) (v : Value) : Prop where
 dk : DkAt w d F (sN fr l k)
 own : w.ownsRow w0.heap.size 34 36 v k (rcsV (rL fr l k))
 off : ∀ b, v.ownBlock = some b → ¬ F b
 fb : ∀ j, F j → w0.heap.size ≤ j
 bel : Below w0.heap.size w0 w
 may : ∀ j, j < k → cmMay (rN fr l j) = true ∧ (rN fr l j).In
theorem RowsS.to {w0 w w' : World} {d : Nat} {F : Nat → Prop} {fr : Int} {l : List Rcd} {k : Nat} {v : Value} (h : RowsS w0 w d F fr l k v) (hb : Below w.heap.size w w') : RowsS w0 w' d F fr l k v :=
 ⟨h.dk.to hb, own_below36 h.own hb, h.off, h.fb, h.bel.trans (hb.mono h.bel.size), h.may⟩
def RowsRel (w0 : World) (d n : Nat) (fr : Int) (l : List Rcd) (v i : Value) (wr : World) : Prop := ∃ (k : Nat) (F : Nat → Prop), k ≤ n ∧ i = .int .i64 (k : Int) ∧ RowsS w0 wr d F fr l k v
theorem res_three {P : Program} {fn : Func} {p q s : Tmp} (h : fn.results = #[.tmp p, .tmp q, .tmp s]) (tmps : Array Value) (w : World) (x y z : Value) (hp : tmps.getD p undef = x) (hq : tmps.getD q undef = y) (hs : tmps.getD s undef = z) :
  (results fn tmps).run P w = .ok (.tuple #[x, y, z]) w := by
 have hp' : tmps[p]?.getD undef = x := by simpa using hp
 have hq' : tmps[q]?.getD undef = y := by simpa using hq
 have hs' : tmps[s]?.getD undef = z := by simpa using hs
 simp [results, h, hp', hq', hs']
theorem rc_at {w : World} {A : Option Addr} {n : Nat} {l : List Rcd} (h : RdRL w w.heap.size A n l) {k : Nat} (hk : k < n) :
  ∃ b o, A = some ⟨b, o, none⟩ ∧ (l.getD k Rcd.zero).In ∧ ∀ wr, Below w.heap.size w wr → wr.rangeAt b (o + k * 36) (rcL (l.getD k Rcd.zero)) := by
 obtain ⟨b, o, e, hb, hc⟩ := h.2 (by omega)
 exact ⟨b, o, e, (hc k hk).2, fun wr hw i v hv => (hw.cell (by exact hb)).trans ((hc k hk).1 i v hv)⟩
theorem rN_in {fr : Int} {l : List Rcd} {k : Nat} (h1 : 1 ≤ fr) (h2 : fr ≤ 1099511627776) (hk : k ≤ 1000) (hi : (l.getD k Rcd.zero).In) : (rN fr l k).In :=
 ⟨by show inI (fr + (k : Int)); unfold inI; omega, hi.slot, hi.len, hi.hash⟩
def RowsTo (w : World) (fr : Int) (n : Nat) (l : List Rcd) (e : Ending) (w' : World) : Prop :=
 (e = .returned (.tuple #[.pointer none, .slice none 0 0, .bool false]) ∧ Below w.heap.size w w') ∨
 ∃ d F A c, e = .returned (.tuple #[.pointer (some ⟨d, 0, none⟩), .slice A n c, .bool true]) ∧ 1 ≤ fr ∧ fr ≤ 1099511627776 ∧ n ≤ 20 ∧ RowsS w w' d F fr l n (.slice A n c)
theorem lRows (fr : Int) (A : Option Addr) (n c : Nat) (l : List Rcd) (w : World) (h : RdRL w w.heap.size A n l) (hn : n ≤ 140737488351232) :
  Calls Tryz.prog 24 #[.int .i64 fr, .slice A n c] w (RowsTo w fr n l) := by
 have hz := rc_zero
 have R := qH h
 clear h
 go_enter Tryz.func24, Tryz.ntmps24
 go_wp2_with fail
 refine (dNew 3 w (by decide) (by decide)).mono ?_
 rintro e w1 ⟨d, rfl, F, hd, hf, hb⟩
 have HD := qH hd
 have HF := qH hf
 have B1 := qH hb
 clear hd hf hb
 by_cases c1 : fr < 1
 ·skip
  go_wp2_with fail
  refine bodyPost_ret (res_three rfl _ _ (.pointer none) (.slice none 0 0) (.bool false) rfl rfl rfl) rfl ?_
  exact .inl ⟨rfl, B1.out⟩
 by_cases c2 : fr > 1099511627776
 ·skip
  go_wp2_with fail
  refine bodyPost_ret (res_three rfl _ _ (.pointer none) (.slice none 0 0) (.bool false) rfl rfl rfl) rfl ?_
  exact .inl ⟨rfl, B1.out⟩
 by_cases c3 : (n : Int) > 20
 ·skip
  go_wp2_with fail
  refine bodyPost_ret (res_three rfl _ _ (.pointer none) (.slice none 0 0) (.bool false) rfl rfl rfl) rfl ?_
  exact .inl ⟨rfl, B1.out⟩
 have HR1 : Hid (1 ≤ fr) := by show _ ≤ _; omega
 have HR2 : Hid (fr ≤ 1099511627776) := by show _ ≤ _; omega
 have HN20 : Hid (n ≤ 20) := by show _ ≤ _; omega
 have S0 : Hid (RowsS w w1 d F fr l 0 (.slice none 0 0)) := by
  refine ⟨?_, ⟨rfl, .inl ⟨rfl, rfl⟩⟩, fun b hb => (by cases hb), HF.out, B1.out, fun j hj => absurd hj (Nat.not_lt_zero _)⟩
  rw [sN_new]
  exact HD.out
 go_wp2_with fail
 clear c1 c2 c3 HD HF B1
 go_loopw [9, 10] (fun v i wr => RowsRel w d n fr l v i wr) (fun _ i _ => n - (intOf i).toNat)
 case atStart => exact ⟨0, F, Nat.zero_le _, rfl, S0.out⟩
 case round =>
  clear S0
  obtain ⟨k, F1, hk, rfl, hs⟩ := hrel
  have SK := qH hs
  obtain ⟨A9, c9, rfl⟩ := own_slice36 SK.out.own
  have HK : Hid (k ≤ n) := hk
  clear hk hs
  by_cases hlt : k < n
  ·have HLT : Hid (k < n) := hlt
   obtain ⟨b, o, rfl, hin, hrg⟩ := rc_at R.out hlt
   have HI := qH hin
   have RG := qH (hrg wr SK.out.bel)
   have HRN := qH (rN_in (k := k) HR1.out HR2.out (by have := HN20.out; omega) hin)
   have hkI : (k : Int) < (n : Int) := by omega
   have hk21 : (k : Int) < 21 := by have := HN20.out; omega
   have hw1 : IntKind.i64.wrap (fr + (k : Int)) = fr + (k : Int) := by rw [IntKind.wrap_i64]; have := HR1.out; have := HR2.out; omega
   have hu := Tryz.underlying34
   have HQ : Hid (rN fr l k = ⟨fr + k, (l.getD k Rcd.zero).slot, (l.getD k Rcd.zero).len, (l.getD k Rcd.zero).trial, (l.getD k Rcd.zero).hash⟩) := rfl
   clear hin hrg
   generalize l.getD k Rcd.zero = q at *
   have SQ : Hid ((Tryz.prog.info? 34).map (·.size) = some (rcL q).length) := by (show _ = _); rw [rc_size HI.out.hash, List.size_toArray]
   have SQA := qH (rc_size HI.out.hash)
   have SZ := qH (rc_same HI.out.hash)
   go_upto_region 9 with (first | (refine wpList_load_mid rfl 34 _ rfl b (o + k * 36) rfl (rcL q) _ RG.out hu rfl SQ.out ?_) | (refine wpList_store_row rfl 34 _ _ rfl wr.heap.size (rcL q).toArray rfl rfl 34 (rcL Rcd.zero).toArray (heap_alloc_last wr _) SQA.out SZ.out (rc_one _) ?_; rw [World.setRow_alloc_new]))
   have hal : Below wr.heap.size wr (wr.alloc (.cells (rcL q).toArray 34)) := (Below.refl _ _).alloc (Nat.le_refl _) _
   have G := qH (RB.new wr HI.out.hash)
   have HGB : Hid (∀ j, F1 j → j < wr.heap.size) := SK.out.dk.lt
   have HGO : Hid (∀ j, (Value.slice A9 k c9).ownBlock = some j → j < wr.heap.size) := fun j hj => (own_lt36 SK.out.own hj).2
   have HGW : Hid (w.heap.size ≤ wr.heap.size) := SK.out.bel.size
   replace SK := qH (SK.out.to hal)
   clear hal hu RG SQ SQA SZ
   generalize wr.alloc (.cells (rcL q).toArray 34) = wa at *
   generalize wr.heap.size = g at *
   obtain ⟨y0, -⟩ := G.out.cells
   have f0 := G.out.fz 0
   go_upto_region 10 with (fail)
   have HKS := qH (show Keep (· = g) wa (wa.setCell ⟨g, 0, none⟩ (.int .i64 (fr + (k : Int)))) from (Keep.refl _ _).setCell _ _ rfl)
   replace G := qH (G.out.setSeq (fr + (k : Int)))
   rw [← HQ.out] at G
   replace SK : Hid (RowsS w (wa.setCell ⟨g, 0, none⟩ (.int .i64 (fr + (k : Int)))) d F1 fr l k (.slice A9 k c9)) :=
    ⟨SK.out.dk.kept HKS.out (fun j hj e => by have := HGB.out j hj; omega), own_kept36 SK.out.own HKS.out (fun j hj e => by have := HGO.out j hj; omega), SK.out.off, SK.out.fb, HKS.out.below SK.out.bel SK.out.bel.size (fun j e => by have := HGW.out; omega), SK.out.may⟩
   have HSZ : Hid ((wa.setCell ⟨g, 0, none⟩ (.int .i64 (fr + (k : Int)))).heap.size = wa.heap.size) := by (show _ = _); simp
   clear y0 f0 HKS hw1 HI
   generalize wa.setCell ⟨g, 0, none⟩ (.int .i64 (fr + (k : Int))) = wb at *
   have SRN := qH (rc_size HRN.out.hash)
   have HL3 : Hid (0 < (sN fr l k).L.length) := sN_pos fr l k
   go_wp2_with (refine wpList_load_row rfl 34 _ rfl g rfl 34 (rcL (rN fr l k)).toArray (0, 0) _ G.out.row Tryz.underlying34 rfl SRN.out ?_)
   have HMP := qH (fun hm => sN_put (fr := fr) (l := l) (k := k) hm HRN.out.hash)
   have HMN : Hid (cmMay (rN fr l k) = false → cmPut (rN fr l k) (sN fr l k) = (2, sN fr l k)) := fun hm => by unfold cmPut; rw [hm, if_neg (by decide)]
   refine (cPut d F1 (sN fr l k) (rN fr l k) wb SK.out.dk HL3.out HRN.out.hash).mono ?_
   rintro e wc ⟨he, F2, h7, h8, h9⟩
   cases hm : cmMay (rN fr l k)
   ·rw [HMN.out hm] at he
    subst he
    have BZ := qH (h9.below SK.out.bel SK.out.bel.size SK.out.fb)
    clear h7 h8 h9 hm HMP HMN
    go_wp2_with fail
    refine bodyPost_ret (res_three rfl _ _ (.pointer none) (.slice none 0 0) (.bool false) rfl rfl rfl) rfl ?_
    exact .inl ⟨rfl, BZ.out⟩
   rw [HMP.out hm] at he h7
   subst he
   have HM := qH hm
   have HD2 := qH h7
   replace G := qH (G.out.kept h9 (fun hf => by have := HGB.out g hf; omega))
   have OW := qH (own_kept36 SK.out.own h9 SK.out.off)
   have BZ := qH (h9.below SK.out.bel SK.out.bel.size SK.out.fb)
   have HO2 : Hid (∀ j, (Value.slice A9 k c9).ownBlock = some j → ¬ F2 j) := fun j hj hf => (h8 j hf).elim (SK.out.off j hj) (fun h => by have := (own_lt36 SK.out.own hj).2; omega)
   have HF2 : Hid (∀ j, F2 j → w.heap.size ≤ j) := fun j hf => (h8 j hf).elim (SK.out.fb j) (Nat.le_trans SK.out.bel.size)
   have HMAY := qH SK.out.may
   clear h7 h8 h9 hm HMP HMN SK HGB HGO
   have hinfo := rc_info
   have S36 := qH (rcL_size HRN.out.hash)
   have HGC : Hid (RB (wc.alloc (.cells (rcL (rN fr l k)).toArray 34)) wc.heap.size (rN fr l k)) := RB.new wc HRN.out.hash
   have hal : Below wc.heap.size wc (wc.alloc (.cells (rcL (rN fr l k)).toArray 34)) := (Below.refl _ _).alloc (Nat.le_refl _) _
   have OW2 := qH (own_below36 OW.out hal)
   have HD3 := qH (HD2.out.to hal)
   have BZ3 := qH (BZ.out.trans (hal.mono BZ.out.size))
   have HSC : Hid (w.heap.size ≤ (wc.alloc (.cells (rcL (rN fr l k)).toArray 34)).heap.size) := BZ3.out.size
   have HWA := qH (show wc.alloc (.cells (rcL (rN fr l k)).toArray 34) = wc.alloc (.cells (rcL (rN fr l k)).toArray 34) from rfl)
   clear hal
   have HK1000 : Hid (k ≤ 1000) := by (show _ ≤ _); have := HN20.out; have := HLT.out; omega
   go_wp2_with (first
    | (refine wpList_load_row rfl 34 _ rfl g rfl 34 (rcL (rN fr l k)).toArray (0, 0) _ G.out.row Tryz.underlying34 rfl SRN.out ?_; refine wpList_buildRc rfl _ rfl (rcL (rN fr l k)).toArray rfl Tryz.underlying65 hinfo S36.out ?_)
    | (at_builtin; go_must (refine wpList_pushRc (v := .slice A9 k c9) (q := rN fr l k) (gx := wc.heap.size) rfl _ _ rfl rfl rfl OW2.out HGC.out HSC.out HK1000.out ?_; intro v7 w7 hown7 hk7 hbl7; have O7 := qH hown7; have K7 := qH hk7; have HBL7 := qH hbl7; clear hown7 hk7 hbl7)))
   have SK2 : Hid (RowsS w w7 d F2 fr l (k + 1) v7) := by
    refine ⟨HD3.out.kept K7.out (fun j hf hj => HO2.out j hj hf), ?_, fun b hb hf => (HBL7.out b hb).elim (fun h => HO2.out b h hf) (fun h => by have := HD3.out.lt b hf; omega), HF2.out, K7.out.below BZ3.out BZ3.out.size (fun j hj => (own_lt36 OW2.out hj).1), fun j hj => ?_⟩
    ·rw [rL_succ]; exact O7.out
    ·by_cases e : j = k
     ·subst e; exact ⟨HM.out, HRN.out⟩
     ·exact HMAY.out j (by omega)
   go_roundw
   case rel => exact ⟨k + 1, F2, HLT.out, by go_num, SK2.out⟩
   case measure => have := HLT.out; simp [intOf]; omega
  ·obtain rfl : k = n := by have := HK.out; omega
   have hkk : ¬ (k : Int) < (k : Int) := by omega
   go_wp2_with fail
   refine bodyPost_ret (res_three rfl _ _ (.pointer (some ⟨d, 0, none⟩)) (.slice A9 k c9) (.bool true) rfl rfl rfl) rfl ?_
   exact .inr ⟨d, F1, A9, c9, rfl, HR1.out, HR2.out, HN20.out, SK.out⟩
end Go.Proofs.YtffdjnhhmfpkgaaGreat