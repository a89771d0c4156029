/- Several texts in one (a claim has 60 files at most): WireW, WireV, WrD. -/
import Derived.Test.YtffdjnhhmfpkgaaGreatTz
import Derived.Test.YtffdjnhhmfpkgaaGreatR3
import Derived.Test.YtffdjnhhmfpkgaaGreatR2
import Derived.Test.YtffdjnhhmfpkgaaGreatRB
namespace Go.Proofs.YtffdjnhhmfpkgaaGreat
set_option maxRecDepth 1000000
set_option maxHeartbeats 8000000
set_option linter.unusedVariables false
set_option linter.unusedSimpArgs false
section
open Go.RowKit
theorem wpList_pushAllF {P : Program} {T U : TypeId} (L : U8 P T U) {ops : Array Oper} {rest : List Oper} {o : Oper} {a : Act} {Q : Exit → Act → World → Prop} (hgd : o.guard = none) (s x : Operand)
  (ho : o.op = .call { callee := .builtin .append, args := #[s, x], argTypes := #[T, T] }) {B B' k m c : Nat} {A : Option Addr} {wr : World} {v : Value} {bs news : List UInt8} (hs : a.eval s = v)
  (hx : a.eval x = .slice A m c) (hown : wr.ownsRow B U 1 v k (bs.map bval)) (hr : Rd wr B' A m news) (hB : B ≤ wr.heap.size) (hk : k + m ≤ 140737488355328)
  (h : ∀ v' w1, w1.ownsRow B U 1 v' (k + m) ((bs ++ news).map bval) → Keep (fun k => v.ownBlock = some k) wr w1 → (∀ b, v'.ownBlock = some b → v.ownBlock = some b ∨ wr.heap.size ≤ b) → wpList P ops Q rest (a.put o.dst v') w1) : wpList P ops Q (o :: rest) a wr := by
 obtain ⟨i0, hi, hz0, hz1, hz2⟩ := info_parts L.info
 have hlen : news.length = m := hr.1
 by_cases h0 : m = 0
 ·subst h0
  obtain rfl : news = [] := List.eq_nil_of_length_eq_zero hlen
  have hrun : (Builtin.append_ #[T, T] o.type #[v, .slice A 0 c]).run P wr = .ok v wr := by
   have hul := L.ul
   cases A with
   | none =>
    rcases hown.2 with ⟨rfl, rfl⟩ | ⟨g, cap, cur, rfl, _, _, hnc, _⟩
    ·simp [Builtin.append_, run_underlying hul, sizeOf, typeInfo, hi, Builtin.lenOf, Builtin.firstCells]
    ·simp [Builtin.append_, run_underlying hul, sizeOf, typeInfo, hi, Builtin.lenOf, Builtin.firstCells, hnc, storeCells]
   | some ad =>
    rcases hown.2 with ⟨rfl, rfl⟩ | ⟨g, cap, cur, rfl, _, _, hnc, _⟩
    ·simp [Builtin.append_, run_underlying hul, sizeOf, typeInfo, hi, Builtin.lenOf, Builtin.firstCells, loadCells, loadCellsFrom, storeCells]
    ·simp [Builtin.append_, run_underlying hul, sizeOf, typeInfo, hi, Builtin.lenOf, Builtin.firstCells, hnc, storeCells, loadCells, loadCellsFrom]
  refine wpList_plain hgd fun K hK => ?_
  unfold Oper.wp execOp
  simp only [ho, resolve, invoke, builtin, Sem.run_bind, Sem.run_pure, Result.andThen_ok, List.map_toArray, List.map_cons, List.map_nil, hs, hx, hrun]
  exact hK _ _ (h v wr (by simpa using hown) (Keep.refl _ _) (fun b e => .inl e))
 ·obtain ⟨b, of, rfl, _, hc⟩ := hr.2 (by omega)
  refine wpList_plain hgd fun K hK => ?_
  refine wp_append_lies _ s x T ho B U i0 (.int .u8 0) 1 1 L.ul hi hz0 hz1 hz2 rfl (by decide) v k _ hs hown ⟨b, of, none⟩ m c (news.map bval) hx (by simpa using hlen) ?_ (bvals_one _) (by omega) ?_ ?_ hB _ rfl ?_
  ·intro j u hu
   have hj : j < m := by
    rcases Nat.lt_or_ge j m with g | g
    ·exact g
    ·rw [List.getElem?_eq_none (by simpa [hlen] using g)] at hu; cases hu
   have e : (⟨b, of, none⟩ : Addr).add j = ⟨b, of + j, none⟩ := by unfold Addr.add; split <;> simp_all
   rw [e, hc j hj, ← hu, List.getElem?_map, List.getElem?_eq_getElem (by omega), nth_of_lt (by omega)]
   rfl
  ·unfold maxLen; omega
  ·omega
  ·intro g cap w1 hown' hgrow hg _
   refine hK _ _ (h _ w1 (by rw [List.map_append]; exact hown') ⟨hgrow.os, hgrow.tape, hgrow.output, hgrow.size, fun k hk hn => hgrow.block k hk (fun e => hn e.symm)⟩ (fun b' e => ?_))
   simp only [Value.ownBlock, Option.some.injEq] at e
   subst e
   rcases hg with h | h
   ·exact .inl h
   ·exact .inr (by omega)
theorem own_keep {R : Nat → Prop} {w w' : World} {B : Nat} {T : TypeId} {v : Value} {n : Nat} {xs : List Value} (h : w.ownsRow B T 1 v n xs) (hk : Keep R w w') (hn : ∀ b, v.ownBlock = some b → ¬ R b) : w'.ownsRow B T 1 v n xs := by
 refine ⟨h.1, ?_⟩
 rcases h.2 with h | ⟨g, cap, cur, e, hg, hh, h⟩
 ·exact .inl h
 ·exact .inr ⟨g, cap, cur, e, hg, (hk.block g (heap_at_lt hh) (hn g (by rw [e]; rfl))).trans hh, h⟩
def WrAt (w : World) (g : Nat) (F : Nat → Prop) (form : List UInt8) (bad : Bool) : Prop :=
 ∃ v : Value, w.heap[g]? = some (.cells #[.bool true, v, .int .i64 (if bad then 3 else 0)] 127 (0, 0)) ∧ F g ∧ (∀ k, F k → k < w.heap.size) ∧ (∀ b, v.ownBlock = some b → F b ∧ b ≠ g) ∧ (bad = false → w.ownsRow 0 5 1 v form.length (form.map bval) ∧ form.length ≤ 65536)
theorem WrAt.lt {w : World} {g : Nat} {F : Nat → Prop} {form : List UInt8} {bad : Bool} (h : WrAt w g F form bad) : ∀ k, F k → k < w.heap.size := by
 obtain ⟨v, h1, h2, h3, h4⟩ := h
 exact h3
theorem WrAt.kept {R : Nat → Prop} {w w' : World} {g : Nat} {F : Nat → Prop} {form : List UInt8} {bad : Bool} (h : WrAt w g F form bad) (hk : Keep R w w') (hn : ∀ k, F k → ¬ R k) : WrAt w' g F form bad := by
 obtain ⟨v, h1, h2, h3, h4, h5⟩ := h
 exact ⟨v, (hk.block g (h3 g h2) (hn g h2)).trans h1, h2, fun k hf => Nat.lt_of_lt_of_le (h3 k hf) hk.size, h4, fun hb => ⟨own_keep (h5 hb).1 hk (fun b e => hn b (h4 b e).1), (h5 hb).2⟩⟩
theorem WrAt.to {w w' : World} {g : Nat} {F : Nat → Prop} {form : List UInt8} {bad : Bool} (h : WrAt w g F form bad) (hb : Below w.heap.size w w') : WrAt w' g F form bad := h.kept (R := fun _ => False) (Keep.of_below hb) (fun _ _ h => h)
def wForm (form b : List UInt8) (bad : Bool) : List UInt8 := if bad = false ∧ form.length + b.length ≤ 65536 then form ++ b else form
def wBad (form b : List UInt8) (bad : Bool) : Bool := if form.length + b.length ≤ 65536 then bad else true
def WrTo (w : World) (g : Nat) (F : Nat → Prop) (form b : List UInt8) (bad : Bool) (e : Ending) (w' : World) : Prop :=
 e = .returned (.pointer (some ⟨g, 0, none⟩)) ∧ ∃ F', WrAt w' g F' (wForm form b bad) (wBad form b bad) ∧ (∀ k, F' k → F k ∨ w.heap.size ≤ k) ∧ Keep F w w'
theorem WrTo.after {w0 w w' : World} {g : Nat} {F : Nat → Prop} {form b : List UInt8} {bad : Bool} {e : Ending} (hb : Below w0.heap.size w0 w) (h : WrTo w g F form b bad e w') : WrTo w0 g F form b bad e w' := by
 obtain ⟨he, F', h1, h2, h3⟩ := h
 exact ⟨he, F', h1, fun k hf => (h2 k hf).imp id (Nat.le_trans hb.size), (Keep.of_below hb).trans h3⟩
def StIs (p : Value) (w : World) (e0 : Nat) : Prop := Calls Tryz.prog 93 #[p] w fun e w' => e = .returned (.int .i64 (e0 : Int)) ∧ w = w'
theorem stIs_made (g : Nat) (x : Value) (e0 : Nat) (w : World) (h : w.heap[g]? = some (.cells #[.bool true, x, .int .i64 (e0 : Int)] 127 (0, 0))) : StIs (.pointer (some ⟨g, 0, none⟩)) w e0 := by
 obtain ⟨x0, x1, x2, _, _, _⟩ := cells3 h
 clear h
 unfold StIs
 go_enter Tryz.func93, Tryz.ntmps93
 go_wp2
 go_ret
 exact ⟨rfl, rfl⟩
theorem stIs_unmade (g : Nat) (w : World) (h : w.cell? ⟨g, 0, none⟩ = some (.bool false)) : StIs (.pointer (some ⟨g, 0, none⟩)) w 1 := by
 unfold StIs
 go_enter Tryz.func93, Tryz.ntmps93
 go_wp2
 go_ret
 exact ⟨rfl, rfl⟩
theorem stIs_nil (w : World) : StIs (.pointer none) w 1 := by
 unfold StIs
 go_enter Tryz.func93, Tryz.ntmps93
 go_wp2
 go_ret
 exact ⟨rfl, rfl⟩
theorem wNew (w : World) : Calls Tryz.prog 70 #[] w fun e w' => ∃ g F, e = .returned (.pointer (some ⟨g, 0, none⟩)) ∧ WrAt w' g F [] false ∧ (∀ k, F k → w.heap.size ≤ k) ∧ Below w.heap.size w w' := by
 go_enter Tryz.func70, Tryz.ntmps70
 go_wp2
 go_ret
 exact ⟨w.heap.size, (· = w.heap.size), rfl, ⟨.slice none 0 0, heap_alloc_last w _, rfl, fun k h => by rw [h]; simp, fun b e => by simp [Value.ownBlock] at e, fun _ => ⟨⟨rfl, .inl ⟨rfl, rfl⟩⟩, by decide⟩⟩, fun k h => Nat.le_of_eq h.symm, (Below.refl _ _).alloc (Nat.le_refl _) _⟩
def PartsAt (w : World) (B : Nat) (F : Nat → Prop) (A : Option Addr) (n : Nat) (bss : List (List UInt8)) : Prop :=
 bss.length = n ∧ (0 < n → ∃ b o, A = some ⟨b, o, none⟩ ∧ b < B ∧ ¬ F b ∧ ∀ j, j < n → ∃ A' m c, w.cell? ⟨b, o + j, none⟩ = some (.slice A' m c) ∧ Rd w B A' m (bss.getD j []) ∧ Off A' m F)
def AddRel (w : World) (g : Nat) (F : Nat → Prop) (n : Nat) (form : List UInt8) (bss : List (List UInt8)) (i : Value) (wr : World) : Prop :=
 ∃ (k : Nat) (F' : Nat → Prop), k ≤ n ∧ i = .int .i64 (k : Int) ∧ WrAt wr g F' (form ++ (bss.take k).flatten) false ∧ (∀ k, F' k → F k ∨ w.heap.size ≤ k) ∧ Keep F w wr
def SumRelW (w : World) (n : Nat) (bss : List (List UInt8)) (s i : Value) (wr : World) : Prop :=
 ∃ k : Nat, k ≤ n ∧ i = .int .i64 (k : Int) ∧ s = .int .i64 ((tot bss k : Nat) : Int) ∧ w = wr
theorem wAdd_bad (p parts : Value) (e0 : Nat) (w : World) (h : StIs p w e0) (he : e0 ≠ 0) : Calls Tryz.prog 91 #[p, parts] w fun e w' => e = .returned p ∧ w = w' := by
 have H := qH h
 have hne : ((e0 : Int) != 0) = true := by simp; omega
 have hne' : ¬ (e0 : Int) = 0 := by omega
 clear h he
 go_enter Tryz.func91, Tryz.ntmps91
 go_wp2_with fail
 refine (H.out).mono ?_
 rintro e w1 ⟨rfl, rfl⟩
 go_wp2_with fail
 go_ret
 exact ⟨rfl, rfl⟩
theorem wAdd_ok (g : Nat) (F : Nat → Prop) (form : List UInt8) (A : Option Addr) (n c : Nat) (bss : List (List UInt8)) (w : World) (h : WrAt w g F form false) (hp : PartsAt w w.heap.size F A n bss) (hn : n ≤ 1000) (ht : bss.flatten.length ≤ 140737488355328) :
  Calls Tryz.prog 91 #[.pointer (some ⟨g, 0, none⟩), .slice A n c] w (WrTo w g F form bss.flatten false) := by
 have H := qH h
 have HP := qH hp
 obtain ⟨v, h1, h2, h3, h4, h5⟩ := h
 obtain ⟨hown, hfl⟩ := h5 rfl
 obtain ⟨A0, c0, rfl⟩ := own_slice hown
 have HB := qH h1
 have HS := qH (stIs_made g _ 0 w h1)
 have HFG := qH h2
 have HLT := qH h3
 obtain ⟨x0, x1, x2, y0, y1, y2⟩ := cells3 h1
 obtain ⟨fl, hfll⟩ : ∃ n, form.length = n := ⟨_, rfl⟩
 rw [hfll] at x1 hfl HB
 have HFL := qH hfll
 clear hp h1 h2 h3 h4 h5 hown hfll
 go_enter Tryz.func91, Tryz.ntmps91
 go_wp2_with fail
 refine (HS.out).mono ?_
 rintro e w1 ⟨rfl, rfl⟩
 go_wp2_with fail
 go_loopw [5, 16] (fun s i wr => SumRelW w n bss s i wr) (fun _ i _ => n - (intOf i).toNat)
 case atStart => exact ⟨0, Nat.zero_le _, rfl, by simp [tot], rfl⟩
 case round =>
  obtain ⟨k, hk, rfl, rfl, rfl⟩ := hrel
  by_cases hlt : k < n
  ·obtain ⟨b, o, rfl, hbo, hnf, hc⟩ := HP.out.2 (by omega)
   obtain ⟨A', m, c', hcell, hrd, _⟩ := hc k hlt
   have ht0 : tot bss k ≤ 140737488355328 := Nat.le_trans (tot_le _ _) ht
   have ht1 : tot bss k + m ≤ 140737488355328 := by
    have h := tot_le bss (k + 1)
    rw [tot_succ (by rw [HP.out.1]; exact hlt), hrd.1] at h; omega
   have HT : Hid (tot bss (k + 1) = tot bss k + m) := by
    have := tot_succ (bss := bss) (k := k) (by rw [HP.out.1]; exact hlt)
    rw [hrd.1] at this; exact this
   clear hc hrd
   generalize tot bss k = t0 at *
   go_wp2_with fail
   go_roundw
   case rel => exact ⟨k + 1, by omega, by go_num, by rw [HT.out]; go_num, rfl⟩
   case measure => simp [intOf]; omega
  ·obtain rfl : k = n := by omega
   have hall : tot bss k = bss.flatten.length := by unfold tot; rw [List.take_of_length_le (by rw [HP.out.1]; exact Nat.le_refl _)]
   rw [hall]
   obtain ⟨t0, ht0⟩ : ∃ t, bss.flatten.length = t := ⟨_, rfl⟩
   rw [ht0] at ht ⊢
   have HT0 := qH ht0
   clear hall ht0
   by_cases hbig : (t0 : Int) > 65536 - (fl : Int)
   ·have HW : Hid (wForm form bss.flatten false = form ∧ wBad form bss.flatten false = true) := by
     have h1 := HT0.out; have h2 := HFL.out
     exact ⟨by unfold wForm; rw [if_neg (by omega)], by unfold wBad; rw [if_neg (by omega)]⟩
    have HB1 := qH (set3_1 (v := .slice none 0 0) HB.out)
    have HB2 := qH (set3_2 (v := .int .i64 3) HB1.out)
    go_wp2_with fail
    go_ret
    refine ⟨rfl, F, ?_, fun k h => .inl h, ((Keep.refl F w).setCell _ _ HFG.out).setCell _ _ HFG.out⟩
    rw [HW.out.1, HW.out.2]
    exact ⟨_, HB2.out, HFG.out, fun k hk => by simpa using HLT.out k hk, fun b e => by simp [Value.ownBlock] at e, fun h => by cases h⟩
   ·have HW : Hid (wForm form bss.flatten false = form ++ bss.flatten ∧ wBad form bss.flatten false = false) := by
     have h1 := HT0.out; have h2 := HFL.out
     exact ⟨by unfold wForm; rw [if_pos ⟨rfl, by omega⟩], by unfold wBad; rw [if_pos (by omega)]⟩
    have HSUM : Hid (fl + t0 ≤ 65536) := by (show _ ≤ _); omega
    go_wp2_with fail
    clear x0 x1 x2 y0 y1 y2 HB
    go_loopw [42] (fun i wr => AddRel w g F k form bss i wr) (fun i _ => k - (intOf i).toNat)
    case atStart => exact ⟨0, F, Nat.zero_le _, rfl, by simpa using H.out, fun k h => .inl h, Keep.refl _ _⟩
    case round =>
     obtain ⟨j, F', hj, rfl, hw, hF', hkp⟩ := hrel
     have K := qH hkp
     have HF' := qH hF'
     have HJ := qH hj
     by_cases hlt2 : j < k
     ·obtain ⟨b, o, rfl, hbo, hnf, hc⟩ := HP.out.2 (by omega)
      obtain ⟨A', m, c', hcell0, hrd, hoff⟩ := hc j hlt2
      have hcell : wr.cell? ⟨b, o + j, none⟩ = some (.slice A' m c') := (hkp.cell hbo hnf).trans hcell0
      have HR := qH (hrd.kept hkp hoff)
      have HTT : Hid ((bss.take (j + 1)).flatten = (bss.take j).flatten ++ bss.getD j []) := take_snoc_rows (by rw [HP.out.1]; exact hlt2)
      have HTL : Hid ((form ++ (bss.take (j + 1)).flatten).length ≤ 65536) := by
       show _ ≤ _
       have h1 := tot_le bss (j + 1)
       unfold tot at h1
       rw [List.length_append, HFL.out]
       have := HT0.out; have := HSUM.out
       omega
      obtain ⟨v, hb1, hfg, hflt, hblk, hown⟩ := hw
      obtain ⟨hown, _⟩ := hown rfl
      obtain ⟨A1, c1, rfl⟩ := own_slice hown
      obtain ⟨x0, x1, x2, y0, y1, y2⟩ := cells3 hb1
      have HBK := qH hblk
      have HB1 := qH hb1
      have HFLT := qH hflt
      have HFG2 := qH hfg
      have hlen1 : (form ++ (bss.take j).flatten).length + m ≤ 140737488355328 := by
       have h := HTL.out
       rw [HTT.out] at h
       simp only [List.length_append] at h ⊢
       rw [hrd.1] at h
       omega
      have hmb := hrd.1
      generalize bss.getD j [] = news at *
      obtain ⟨fm, hfm⟩ : ∃ l, form ++ (bss.take j).flatten = l := ⟨_, rfl⟩
      rw [hfm] at hown x1 hlen1 HB1 HBK
      have HFM : Hid (form ++ (bss.take (j + 1)).flatten = fm ++ news) := by (show _ = _); rw [HTT.out, ← List.append_assoc, hfm]
      clear hc hrd hoff hcell0 hkp hblk hb1 hflt hfg hF' hj hfm y0 y2 x0 x2
      obtain ⟨fn, hfn⟩ : ∃ n, fm.length = n := ⟨_, rfl⟩
      rw [hfn] at hown x1 hlen1 HB1 HBK
      have HFN := qH hfn
      clear hfn
      go_wp2_with (at_builtin; go_must (refine wpList_pushAllF (v := .slice A1 fn c1) isU8 rfl _ _ rfl rfl rfl hown HR.out (Nat.zero_le _) hlen1 ?_; intro v1 w3 hown1 hk1 hbl1; obtain ⟨A3, c3, rfl⟩ := own_slice hown1; have O3 := qH hown1; have K3 := qH hk1; have HBL := qH hbl1; have HB3 := qH ((hk1.block g (HFLT.out g HFG2.out) (fun e => (HBK.out g e).2 rfl)).trans HB1.out); have hst3 := (cells3 HB3.out).2.1; have hfr3 := (cells3 HB3.out).2.2.2.2.1; clear hown hown1 hk1 hbl1 x1 y1 hcell))
      have HLT3 : Hid (g < w3.heap.size) := heap_at_lt HB3.out
      go_roundw
      case rel =>
       refine ⟨j + 1, fun b => F' b ∨ (wr.heap.size ≤ b ∧ b < w3.heap.size), by omega, by go_num, ?_, ?_, ?_⟩
       ·rw [HFM.out]
        have hlen3 : (fm ++ news).length = fn + m := by rw [List.length_append, HFN.out, hmb]
        refine ⟨_, set3_1 HB3.out, .inl HFG2.out, ?_, ?_, fun _ => ⟨?_, by rw [← HFM.out]; exact HTL.out⟩⟩
        ·intro b hb
         rcases hb with hb | hb
         ·have := HFLT.out b hb; have := K3.out.size; simp; omega
         ·simpa using hb.2
        ·intro b hb
         have hlt3 : b < w3.heap.size := by
          rcases O3.out.2 with ⟨e, _⟩ | ⟨g', cap, cur, e, _, hh, _⟩
          ·rw [e] at hb; simp [Value.ownBlock] at hb
          ·rw [e] at hb
           simp only [Value.ownBlock, Option.some.injEq] at hb
           subst hb
           exact heap_at_lt hh
         rcases HBL.out b hb with hb' | hb'
         ·exact ⟨.inl (HBK.out b hb').1, (HBK.out b hb').2⟩
         ·exact ⟨.inr ⟨hb', hlt3⟩, fun e => by have := HFLT.out g HFG2.out; omega⟩
        ·rw [hlen3]
         refine own_keep (R := (· = g)) O3.out ((Keep.refl _ w3).setCell _ _ rfl) (fun b hb e => ?_)
         rcases HBL.out b hb with hb' | hb'
         ·exact (HBK.out b hb').2 e
         ·have := HFLT.out g HFG2.out; omega
       ·intro b hb
        rcases hb with hb | hb
        ·exact HF'.out b hb
        ·have := K.out.size; right; omega
       ·refine K.out.new ((K3.out.more (fun b hb => ?_)).setCell _ _ ?_)
        ·exact HF'.out b (HBK.out b hb).1
        ·exact HF'.out g HFG2.out
      case measure => simp [intOf]; omega
     ·obtain rfl : j = k := by omega
      have W2 := qH hw
      clear hw hkp hF' hj
      go_wp2_with fail
      go_ret
      refine ⟨rfl, F', ?_, HF'.out, K.out⟩
      rw [HW.out.1, HW.out.2]
      have h := W2.out
      rw [List.take_of_length_le (by rw [HP.out.1]; exact Nat.le_refl _)] at h
      exact h
end
section
open Go.RowKit
theorem wAdd_failed (g : Nat) (F : Nat → Prop) (form b : List UInt8) (parts : Value) (w : World) (h : WrAt w g F form true) :
  Calls Tryz.prog 91 #[.pointer (some ⟨g, 0, none⟩), parts] w (WrTo w g F form b true) := by
 obtain ⟨v, h1, h2, h3, h4, h5⟩ := id h
 refine (wAdd_bad _ parts 3 w (stIs_made g v 3 w h1) (by decide)).mono ?_
 rintro e w' ⟨rfl, rfl⟩
 have e1 : wForm form b true = form := by unfold wForm; rw [if_neg (fun h => by cases h.1)]
 have e2 : wBad form b true = true := by unfold wBad; split <;> rfl
 exact ⟨rfl, F, by rw [e1, e2]; exact h, fun k h => .inl h, Keep.refl _ _⟩
theorem wAdd (g : Nat) (F : Nat → Prop) (form : List UInt8) (bad : Bool) (A : Option Addr) (n c : Nat) (bss : List (List UInt8)) (w : World) (h : WrAt w g F form bad) (hp : PartsAt w w.heap.size F A n bss) (hn : n ≤ 1000) (ht : bss.flatten.length ≤ 140737488355328) :
  Calls Tryz.prog 91 #[.pointer (some ⟨g, 0, none⟩), .slice A n c] w (WrTo w g F form bss.flatten bad) := by
 cases bad
 ·exact wAdd_ok g F form A n c bss w h hp hn ht
 ·exact wAdd_failed g F form _ _ w h
theorem tag_slice32 (g : Nat) (w : World) : (Instr.sliceAt 32 (.pointer (some ⟨g, 0, none⟩)) none none none).run Tryz.prog w = .ok (.slice (some ⟨g, 0, none⟩) 32 32) w := by
 have hl : Tryz.prog.arrayLen 32 = 32 := by kernel_rfl
 have he : Tryz.prog.elem 32 = 5 := by kernel_rfl
 have hs : (sizeOf 5).run Tryz.prog w = .ok 1 w := u8_size isU8 w
 rw [run_sliceAt_array_all (ht := by kernel_rfl), he, hl, hs]
 simp [Result.andThen, slicedAt, Addr.add]
theorem wAdd1 (g : Nat) (F : Nat → Prop) (form : List UInt8) (bad : Bool) (A : Option Addr) (n c : Nat) (xs : List UInt8) (w : World) (h : WrAt w g F form bad) (ha : Rd w w.heap.size A n xs) (ho : Off A n F) (hn : n ≤ 140737488355328) :
  Calls Tryz.prog 91 #[.pointer (some ⟨g, 0, none⟩), .slice (some ⟨w.heap.size, 0, none⟩) 1 1] (w.alloc (.cells #[.slice A n c] 35)) (WrTo w g F form xs bad) := by
 have hb : Below w.heap.size w (w.alloc (.cells #[.slice A n c] 35)) := (Below.refl _ _).alloc (Nat.le_refl _) _
 have hp : PartsAt (w.alloc (.cells #[.slice A n c] 35)) (w.alloc (.cells #[.slice A n c] 35)).heap.size F (some ⟨w.heap.size, 0, none⟩) 1 [xs] := by
  refine ⟨rfl, fun _ => ⟨w.heap.size, 0, rfl, by simp, fun hf => absurd (h.lt _ hf) (Nat.lt_irrefl _), fun j hj => ?_⟩⟩
  obtain rfl : j = 0 := by omega
  exact ⟨A, n, c, by rw [World.cell?_alloc_at _ _ _ _ (by rfl)]; rfl, ha.to hb, ho⟩
 have hl := ha.1
 refine (wAdd g F form bad _ 1 1 [xs] _ (h.to hb) hp (by decide) (by simp; omega)).mono fun e w' hh => ?_
 have := hh.after hb
 simpa using this
theorem wAdd1B (g : Nat) (F : Nat → Prop) (form : List UInt8) (bad : Bool) (A : Option Addr) (n c : Nat) (xs : List UInt8) (w : World) (B : Nat) (hB : w.heap.size = B) (h : WrAt w g F form bad) (ha : Rd w w.heap.size A n xs) (ho : Off A n F) (hn : n ≤ 140737488355328) :
  Calls Tryz.prog 91 #[.pointer (some ⟨g, 0, none⟩), .slice (some ⟨B, 0, none⟩) 1 1] (w.alloc (.cells #[.slice A n c] 35)) (WrTo w g F form xs bad) := by
 subst hB
 exact wAdd1 g F form bad A n c xs w h ha ho hn
theorem wAdd2 (g : Nat) (F : Nat → Prop) (form : List UInt8) (bad : Bool) (A A' : Option Addr) (n m c d : Nat) (xs ys : List UInt8) (w : World) (h : WrAt w g F form bad) (ha : Rd w w.heap.size A n xs) (ho : Off A n F) (ha' : Rd w w.heap.size A' m ys) (ho' : Off A' m F) (hn : n + m ≤ 140737488355328) :
  Calls Tryz.prog 91 #[.pointer (some ⟨g, 0, none⟩), .slice (some ⟨w.heap.size, 0, none⟩) 2 2] (w.alloc (.cells #[.slice A n c, .slice A' m d] 35)) (WrTo w g F form (xs ++ ys) bad) := by
 have hb : Below w.heap.size w (w.alloc (.cells #[.slice A n c, .slice A' m d] 35)) := (Below.refl _ _).alloc (Nat.le_refl _) _
 have hp : PartsAt (w.alloc (.cells #[.slice A n c, .slice A' m d] 35)) (w.alloc (.cells #[.slice A n c, .slice A' m d] 35)).heap.size F (some ⟨w.heap.size, 0, none⟩) 2 [xs, ys] := by
  refine ⟨rfl, fun _ => ⟨w.heap.size, 0, rfl, by simp, fun hf => absurd (h.lt _ hf) (Nat.lt_irrefl _), fun j hj => ?_⟩⟩
  rcases j with _ | _ | j
  ·exact ⟨A, n, c, by rw [World.cell?_alloc_at _ _ _ _ (by rfl)]; rfl, ha.to hb, ho⟩
  ·exact ⟨A', m, d, by rw [World.cell?_alloc_at _ _ _ _ (by rfl)]; rfl, ha'.to hb, ho'⟩
  ·omega
 have hl := ha.1
 have hl' := ha'.1
 refine (wAdd g F form bad _ 2 2 [xs, ys] _ (h.to hb) hp (by decide) (by simp; omega)).mono fun e w' hh => ?_
 have := hh.after hb
 simpa using this
theorem wByte (g : Nat) (F : Nat → Prop) (form : List UInt8) (bad : Bool) (x : UInt8) (w : World) (h : WrAt w g F form bad) : Calls Tryz.prog 72 #[.pointer (some ⟨g, 0, none⟩), .int .u8 (x.toNat : Int)] w (WrTo w g F form [x] bad) := by
 have hb : Below w.heap.size w (w.alloc (.cells #[.int .u8 (x.toNat : Int)] 5)) := (Below.refl _ _).alloc (Nat.le_refl _) _
 have hsz : (w.alloc (.cells #[.int .u8 (x.toNat : Int)] 5)).heap.size = w.heap.size + 1 := by simp
 have r0 : Rd (w.alloc (.cells #[.int .u8 (x.toNat : Int)] 5)) (w.alloc (.cells #[.int .u8 (x.toNat : Int)] 5)).heap.size (some ⟨w.heap.size, 0, none⟩) 1 [x] := by
  rw [hsz]
  exact Rd.lit (w := w) [x] [.int .u8 (x.toNat : Int)] 5 rfl
 have R := qH r0
 have HSZ := qH hsz
 have HO : Hid (Off (some ⟨w.heap.size, 0, none⟩) 1 F) := fun _ b o e hf => by
  injection e with e; injection e with e1 _
  have := h.lt _ hf; omega
 have H := qH (h.to hb)
 have B := qH hb
 clear h hb r0 hsz
 go_enter Tryz.func72, Tryz.ntmps72
 go_wp2_with fail
 refine (wAdd1B g F form bad (some ⟨w.heap.size, 0, none⟩) 1 1 [x] (w.alloc (.cells #[.int .u8 (x.toNat : Int)] 5)) (w.heap.size + 1) HSZ.out H.out R.out HO.out (by decide)).mono ?_
 intro e w1 h
 have T := qH (h.after B.out)
 obtain ⟨rfl, _⟩ := h
 go_wp2_with fail
 go_ret
 exact T.out
theorem wInt (g : Nat) (F : Nat → Prop) (form : List UInt8) (bad : Bool) (x : Int) (w : World) (h : WrAt w g F form bad) : Calls Tryz.prog 71 #[.pointer (some ⟨g, 0, none⟩), .int .i64 x] w (WrTo w g F form (enc (u64N x) 8) bad) := by
 have h64 : IntKind.u64.wrap x = (u64N x : Int) := by rw [← u64N_eq]; simp only [IntKind.wrap_u64]
 have HL := qH (u64N_lt x)
 have HE := qH (enc_len (u64N x) 8)
 have H := qH h
 clear h
 go_enter Tryz.func71, Tryz.ntmps71
 go_wp2_with fail
 refine (wPut64 (u64N x) w HL.out).mono ?_
 obtain ⟨es, hes⟩ : ∃ l, enc (u64N x) 8 = l := ⟨_, rfl⟩
 rw [hes] at HE ⊢
 have HES := qH hes
 clear hes
 rintro e w1 ⟨A1, n1, c1, rfl, hown, hb⟩
 obtain rfl : n1 = 8 := (Rd.of_own hown).1.symm.trans HE.out
 have O := qH (OwR.of_own hown)
 have B := qH hb
 have HO : Hid (Off A1 8 F) := O.out.off (fun k hk => H.out.lt k hk)
 replace H := qH (H.out.to hb)
 clear hown hb
 go_wp2_with fail
 refine (wAdd1 g F form bad A1 8 c1 es w1 H.out O.out.1 HO.out (by decide)).mono ?_
 intro e w2 h
 have T := qH (h.after B.out)
 obtain ⟨rfl, _⟩ := h
 go_wp2_with fail
 go_ret
 rw [HES.out]
 exact T.out
theorem wFlag (g : Nat) (F : Nat → Prop) (form : List UInt8) (bad : Bool) (x : Bool) (w : World) (h : WrAt w g F form bad) : Calls Tryz.prog 73 #[.pointer (some ⟨g, 0, none⟩), .bool x] w (WrTo w g F form [flagB x] bad) := by
 have H := qH h
 clear h
 go_enter Tryz.func73, Tryz.ntmps73
 cases x
 ·go_wp2_with fail
  refine (wByte g F form bad 0 w H.out).mono ?_
  intro e w2 h
  have T := qH h
  obtain ⟨rfl, _⟩ := h
  go_wp2_with fail
  go_ret
  exact T.out
 ·go_wp2_with fail
  refine (wByte g F form bad 1 w H.out).mono ?_
  intro e w2 h
  have T := qH h
  obtain ⟨rfl, _⟩ := h
  go_wp2_with fail
  go_ret
  exact T.out
theorem wTag (g : Nat) (F : Nat → Prop) (form : List UInt8) (bad : Bool) (t : List UInt8) (w : World) (h : WrAt w g F form bad) (hl : t.length = 32) : Calls Tryz.prog 74 #[.pointer (some ⟨g, 0, none⟩), .agg (arrB t)] w (WrTo w g F form t bad) := by
 have hb0 : Below w.heap.size w (w.alloc (.cells (arrB t) 32)) := (Below.refl _ _).alloc (Nat.le_refl _) _
 have T0 : TagAt (w.alloc (.cells (arrB t) 32)) w.heap.size t := ⟨hl, heap_alloc_last w _⟩
 have R := qH T0.rd
 have HSZ : Hid ((w.alloc (.cells (arrB t) 32)).heap.size = w.heap.size + 1) := by (show _ = _); simp
 have H := qH (h.to hb0)
 have B0 := qH hb0
 have HO : Hid (Off (some ⟨w.heap.size, 0, none⟩) 32 F) := fun _ b o e hf => by
  injection e with e; injection e with e1 _
  have := h.lt _ hf; omega
 have hsa := fun (g : Nat) => tag_slice32 g
 clear h hb0 T0
 go_enter Tryz.func74, Tryz.ntmps74
 go_wp2_with fail
 refine (wAdd1B g F form bad (some ⟨w.heap.size, 0, none⟩) 32 32 t (w.alloc (.cells (arrB t) 32)) (w.heap.size + 1) HSZ.out H.out R.out HO.out (by decide)).mono ?_
 intro e w2 h
 have T := qH (h.after B0.out)
 obtain ⟨rfl, _⟩ := h
 go_wp2_with fail
 go_ret
 exact T.out
theorem wDone (g : Nat) (F : Nat → Prop) (form : List UInt8) (bad : Bool) (w : World) (h : WrAt w g F form bad) : Calls Tryz.prog 75 #[.pointer (some ⟨g, 0, none⟩)] w fun e w' => ∃ A n c, e = .returned (.tuple #[.slice A n c, .int .i64 (if bad then 3 else 0)]) ∧ OwR w' w.heap.size A n (if bad then [] else form) ∧ n ≤ c ∧ c ≤ 9223372036854775807 ∧ Below w.heap.size w w' := by
 obtain ⟨v, h1, h2, h3, h4, h5⟩ := h
 cases bad
 ·obtain ⟨hown, hfl⟩ := h5 rfl
  obtain ⟨A0, c0, rfl⟩ := own_slice hown
  have HS := qH (stIs_made g _ 0 w h1)
  have HR := qH (Rd.of_own hown)
  obtain ⟨x0, x1, x2, y0, y1, y2⟩ := cells3 h1
  obtain ⟨fl, hfll⟩ : ∃ n, form.length = n := ⟨_, rfl⟩
  rw [hfll] at x1 hfl HR
  clear h1 h2 h3 h4 h5 hown hfll
  go_enter Tryz.func75, Tryz.ntmps75
  go_wp2_with fail
  refine (HS.out).mono ?_
  rintro e w1 ⟨rfl, rfl⟩
  go_wp2_with fail
  refine (wCat1 A0 fl c0 form w HR.out (by omega)).mono ?_
  rintro e w1 ⟨A1, n1, c1, rfl, hown1, hb⟩
  have O := qH (OwR.of_own hown1)
  have HC := qH (own_cap hown1)
  have B := qH hb
  clear hown1 hb
  go_wp2_with fail
  go_ret2
  exact ⟨_, _, _, rfl, O.out, HC.out.1, HC.out.2, B.out⟩
 ·have HS := qH (stIs_made g _ 3 w h1)
  clear h1 h2 h3 h4 h5
  go_enter Tryz.func75, Tryz.ntmps75
  go_wp2_with fail
  refine (HS.out).mono ?_
  rintro e w1 ⟨rfl, rfl⟩
  go_wp2_with fail
  go_ret2
  exact ⟨_, _, _, rfl, ⟨Rd.nil _ _ _, fun h => absurd h (Nat.lt_irrefl 0)⟩, Nat.le_refl _, by decide, Below.refl _ _⟩
end
section
open Go.RowKit
structure WD (w0 w : World) (g : Nat) (F : Nat → Prop) (form : List UInt8) : Prop where
 wr : WrAt w g F form false
 fb : ∀ k, F k → w0.heap.size ≤ k
 bel : Below w0.heap.size w0 w
theorem WD.ends {w0 w w' : World} {g : Nat} {F : Nat → Prop} {form b : List UInt8} {e : Ending} (h : WD w0 w g F form) (hl : form.length + b.length ≤ 65536) (ht : WrTo w g F form b false e w') :
  e = .returned (.pointer (some ⟨g, 0, none⟩)) ∧ ∃ F', WD w0 w' g F' (form ++ b) := by
 obtain ⟨he, F', h1, h2, h3⟩ := ht
 have e1 : wForm form b false = form ++ b := by unfold wForm; rw [if_pos ⟨rfl, hl⟩]
 have e2 : wBad form b false = false := by unfold wBad; rw [if_pos hl]
 rw [e1, e2] at h1
 refine ⟨he, F', h1, fun k hk => ?_, h3.below h.bel h.bel.size h.fb⟩
 rcases h2 k hk with h4 | h4
 ·exact h.fb k h4
 ·exact Nat.le_trans h.bel.size h4
end
end Go.Proofs.YtffdjnhhmfpkgaaGreat