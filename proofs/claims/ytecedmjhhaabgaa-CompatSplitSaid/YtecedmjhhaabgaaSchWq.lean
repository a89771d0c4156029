/- Several texts in one (a claim has 60 files at most): SchQ, Blk, SchW. -/
import Derived.Test.YtecedmjhhaabgaaRegP
import Derived.Test.YtecedmjhhaabgaaSchM
import Derived.Test.YtecedmjhhaabgaaShelfS
import Derived.Test.YtecedmjhhaabgaaPairQ
import Derived.Deep.Cut
namespace Go.Proofs.Ytecedmjhhaabgaa

/- Contracts of the program's schedule package: the library's ContainsFunc at windows, isWrong, sum, May, Frame. -/
section
open Go.RowKit
set_option linter.unusedVariables false
set_option linter.unusedSimpArgs false

def winV (r : Reg) : Value := .agg (regL r).toArray
set_option maxRecDepth 1000000 in
set_option maxHeartbeats 1000000 in
theorem Sch.index0 (g : Nat) (lb : Array Value) (A : Option Addr) (c : Nat) (w : World) :
    Calls Try.prog 78 #[.slice A 0 c, .func (.func g) #[] lb] w fun e w' => e = .returned (.int .i64 (-1)) ∧ Below w.heap.size w w' := by
  go_enter Try.func78, Try.ntmps78
  go_wp2
  go_loopw [5, 8] (fun _ s8 wr => s8 = .int .i64 0 ∧ wr = w) (fun _ _ _ => 0)
  case atStart => exact ⟨rfl, rfl⟩
  case round =>
    obtain ⟨rfl, rfl⟩ := hrel
    go_wp2
    go_ret
    exact ⟨rfl, Below.refl _ _⟩
/-- slices.IndexFunc at a slice of windows. -/
theorem Sch.index (g : Nat) (lb : Array Value) (eg : ∀ args w, (callFunc g args).run Try.prog w = .ok (.enter g args) w) (p : Reg → Bool) (A : Option Addr) (n c : Nat) (l : List Reg) (w : World)
    (hp : PredBelow Try.prog g lb winV p w) (h : RdG w w.heap.size A n l) (hn : n ≤ 9223372036854775807) :
    Calls Try.prog 78 #[.slice A n c, .func (.func g) #[] lb] w fun e w' => e = .returned (.int .i64 (idxR p l)) ∧ Below w.heap.size w w' := by
  rcases Nat.eq_zero_or_pos n with rfl | hpos
  · obtain rfl : l = [] := List.length_eq_zero_iff.1 h.1
    rw [show idxR p [] = -1 from rfl]
    exact Sch.index0 g lb A c w
  · obtain ⟨b, o, rfl, hb, hc⟩ := h.2 hpos
    have := AnyQ.slices_IndexFunc shIndexS 2 Try.isAgg59 Try.sizeOf59 regL (fun _ => rfl) p g lb eg b o n c l w hp (Nat.le_of_eq h.1.symm) hn hb (RdG.shelf h.1 hc)
    rw [List.take_of_length_le (Nat.le_of_eq h.1)] at this
    exact this
/-- slices.ContainsFunc at a slice of windows. -/
theorem Sch.contains (g : Nat) (lb : Array Value) (eg : ∀ args w, (callFunc g args).run Try.prog w = .ok (.enter g args) w) (p : Reg → Bool) (A : Option Addr) (n c : Nat) (l : List Reg) (w : World)
    (hp : PredBelow Try.prog g lb winV p w) (h : RdG w w.heap.size A n l) (hn : n ≤ 9223372036854775807) :
    Calls Try.prog 65 #[.slice A n c, .func (.func g) #[] lb] w fun e w' => e = .returned (.bool (l.any p)) ∧ Below w.heap.size w w' := by
  rcases Nat.eq_zero_or_pos n with rfl | hpos
  · obtain rfl : l = [] := List.length_eq_zero_iff.1 h.1
    go_enter Try.func65, Try.ntmps65
    go_wp2_with fail
    refine (Sch.index0 g lb A c w).mono ?_
    rintro e w1 ⟨rfl, hb⟩
    go_wp2_with fail
    go_ret
    exact ⟨rfl, hb⟩
  · obtain ⟨b, o, rfl, hb, hc⟩ := h.2 hpos
    have := AnyQ.slices_ContainsFunc shContainsS 2 Try.isAgg59 Try.sizeOf59 regL (fun _ => rfl) p g lb eg b o n c l w hp (Nat.le_of_eq h.1.symm) hn hb (RdG.shelf h.1 hc)
    rw [List.take_of_length_le (Nat.le_of_eq h.1)] at this
    exact this


set_option maxRecDepth 1000000 in
set_option maxHeartbeats 1000000 in
theorem Sch.isWrong (b s : Int) (w : World) :
    Calls Try.prog 76 #[.agg #[.int .i64 b, .int .i64 s]] w fun e w' => e = .returned (.bool (!okW (b, s))) ∧ Below w.heap.size w w' := by
  go_enter Try.func76, Try.ntmps76
  go_wp2
  all_goals (go_ret; refine ⟨ret_bool ?_, (Below.refl _ _).alloc (Nat.le_refl _) _⟩; rw [Bool.eq_iff_iff, Bool.not_eq_true', ← Bool.not_eq_true, okW_iff]; simp only [Bool.or_eq_true, decide_eq_true_eq, Bool.false_eq_true, false_iff, true_iff] at *; omega)
/-- isWrong, as ContainsFunc calls it. -/
theorem Sch.wrong (lb : Array Value) (w : World) (hl : lb = #[]) : PredBelow Try.prog 76 lb winV (fun x => !okW x) w := fun W x hb => by
  subst hl
  show Calls Try.prog 76 #[.agg #[.int .i64 x.1, .int .i64 x.2]] W _
  refine (Sch.isWrong x.1 x.2 W).mono ?_
  rintro e w1 ⟨rfl, hb'⟩
  exact ⟨rfl, hb.trans (hb'.mono hb.size)⟩

def SumR (l : List Reg) (n : Nat) (w : World) (s3 s8 : Value) (wr : World) : Prop :=
  ∃ k : Nat, k ≤ n ∧ s8 = .int .i64 (k : Int) ∧ s3 = .int .i64 (sumW (l.take k)) ∧ Below w.heap.size w wr
set_option maxRecDepth 1000000 in
set_option maxHeartbeats 1000000 in
theorem Sch.sum (A : Option Addr) (n c : Nat) (l : List Reg) (w : World) (h : RdG w w.heap.size A n l) (hn : n ≤ 12) (ok : ∀ x ∈ l, okW x = true) :
    Calls Try.prog 77 #[.slice A n c] w fun e w' => e = .returned (.int .i64 (sumW l)) ∧ Below w.heap.size w w' := by
  have R := Lib.hid h
  have HN := Lib.hid hn
  have OK := Lib.hid ok
  clear h hn ok
  go_enter Try.func77, Try.ntmps77
  go_wp2
  go_loopw [3, 5, 8] (fun s3 _ s8 wr => SumR l n w s3 s8 wr) (fun _ _ s8 _ => n - (intOf s8).toNat)
  case atStart => exact ⟨0, Nat.zero_le _, rfl, rfl, Below.refl _ _⟩
  case round =>
    obtain ⟨k, hk, rfl, rfl, hb⟩ := hrel
    have BB := Lib.hid hb
    clear hb
    by_cases hlt : k < n
    · obtain ⟨b, o, rfl, hbo, hc⟩ := (R.out.to BB.out).2 (by omega)
      have c0 := (hc k hlt).1
      have c1 := (hc k hlt).2
      have hltI : (k : Int) < (n : Int) := by omega
      have HK : Hid (k < n) := hlt
      have HS := Lib.hid (sumW_succ (l := l) (k := k) (by rw [R.out.1]; exact hlt))
      have h1 := sumW_take_le OK.out k
      have h2 := sumW_ge OK.out
      have h3 := okW_at OK.out (k := k) (by rw [R.out.1]; exact hlt)
      have h4 := R.out.1
      have h5 := HN.out
      have hw : IntKind.i64.wrap (sumW (l.take k) + (rat l k).1) = sumW (l.take k) + (rat l k).1 := by rw [IntKind.wrap_i64]; omega
      have hwk : IntKind.i64.wrap ((k : Int) + 1) = (k : Int) + 1 := by rw [IntKind.wrap_i64]; omega
      clear hc hk hlt hbo h1 h2 h3 h4 h5
      go_wp2
      go_roundw
      case rel => exact ⟨k + 1, HK.out, by go_num, by rw [HS.out], BB.out.alloc BB.out.size _⟩
      case measure => have := HK.out; simp [intOf]; omega
    · obtain rfl : k = n := by omega
      have hltI : ¬ (k : Int) < (k : Int) := by omega
      clear hk hlt
      rw [List.take_of_length_le (by rw [R.out.1]; exact Nat.le_refl _)]
      go_wp2
      go_ret
      exact ⟨rfl, BB.out⟩
set_option maxRecDepth 1000000 in
set_option maxHeartbeats 1000000 in
theorem Sch.may (A : Option Addr) (n c : Nat) (l : List Reg) (w : World) (h : RdG w w.heap.size A n l) (hn : n ≤ 9223372036854775807) :
    Calls Try.prog 64 #[.slice A n c] w fun e w' => e = .returned (.bool (mayW l)) ∧ Below w.heap.size w w' := by
  have R := Lib.hid h
  have HN := Lib.hid hn
  have eg : ∀ args w, (callFunc 76 args).run Try.prog w = .ok (.enter 76 args) w := enters_of Try.func76 (by kernel_rfl) rfl
  have EG := Lib.hid eg
  clear h hn eg
  by_cases h0 : n = 0
  · subst h0
    have HF : Hid (mayW l = false) := by
      show _ = _
      obtain rfl : l = [] := List.length_eq_zero_iff.1 R.out.1
      rfl
    go_enter Try.func64, Try.ntmps64
    go_wp2_with fail
    go_ret
    exact ⟨by rw [HF.out]; rfl, Below.refl _ _⟩
  have hz : ((n : Int) == 0) = false := by
    have : (n : Int) ≠ 0 := by omega
    simpa using this
  by_cases h12 : 12 < n
  · have h12I : (n : Int) > 12 := by omega
    have HF : Hid (mayW l = false) := by
      show _ = _
      rw [Bool.eq_false_iff]
      intro hm
      have := (mayW_iff.1 hm).2.1
      have := R.out.1
      omega
    clear h0 h12
    go_enter Try.func64, Try.ntmps64
    go_wp2_with fail
    go_ret
    exact ⟨by rw [HF.out]; rfl, Below.refl _ _⟩
  have h12I : ¬ (n : Int) > 12 := by omega
  have H12 : Hid (n ≤ 12 ∧ n ≠ 0) := by (show _ ∧ _); omega
  clear h0 h12
  go_enter Try.func64, Try.ntmps64
  go_wp2_with fail
  refine (Sch.contains _ _ EG.out _ A n c l _ (Sch.wrong _ _ rfl) R.out HN.out).mono ?_
  rintro e w1 ⟨rfl, hb⟩
  have B := Lib.hid hb
  clear hb
  cases ha : l.any (fun x => !okW x)
  · have OK : Hid (∀ x ∈ l, okW x = true) := by
      intro x hx
      have := List.any_eq_false.1 ha x hx
      simpa using this
    clear ha
    go_wp2_with fail
    refine (Sch.sum A n c l w1 (R.out.to B.out) H12.out.1 OK.out).mono ?_
    rintro e w2 ⟨rfl, hb⟩
    replace B := Lib.hid (B.out.trans (hb.mono B.out.size))
    clear hb
    go_wp2_with fail
    all_goals (go_ret; refine ⟨ret_bool ?_, B.out⟩; rw [Bool.eq_iff_iff, mayW_iff]; have := H12.out; have := R.out.1; have := OK.out; simp only [decide_eq_true_eq, Bool.false_eq_true, false_iff, true_iff] at *; first | exact ⟨fun _ => ⟨by omega, by omega, OK.out, by omega⟩, fun _ => by omega⟩ | exact ⟨fun _ => ⟨by omega, by omega, OK.out, by omega⟩, fun h => h.2.2.2⟩ | skip)
  · have HF : Hid (mayW l = false) := by
      show _ = _
      rw [Bool.eq_false_iff]
      intro hm
      obtain ⟨x, hx, hn⟩ := List.any_eq_true.1 ha
      have := may_ok hm x hx
      rw [this] at hn
      cases hn
    clear ha
    go_wp2_with fail
    go_ret
    exact ⟨by rw [HF.out]; rfl, B.out⟩
end

/- A block of the call's own that holds ints (a struct of ints, an int that is boxed), which may be written; an append onto a row of ints that leaves such blocks alone. The block's type is a letter. -/
section
open Go.RowKit
set_option linter.unusedVariables false
set_option linter.unusedSimpArgs false

/-- Block g holds the ints zs, and may be written. -/
def Blk (T : TypeId) (W : World) (g : Nat) (zs : List Int) : Prop := W.heap[g]? = some (.cells (zs.map iv).toArray T (0, 0))
theorem Blk.lt {T : TypeId} {W : World} {g : Nat} {zs : List Int} (h : Blk T W g zs) : g < W.heap.size := (Array.getElem?_eq_some_iff.1 h).1
theorem Blk.at {T : TypeId} {W : World} {g : Nat} {zs : List Int} (h : Blk T W g zs) (j : Nat) {z : Int} (hz : zs[j]? = some z) : W.cell? ⟨g, j, none⟩ = some (.int .i64 z) := by
  simp [World.cell?, show W.heap[g]? = _ from h, hz, iv]
theorem Blk.fz {T : TypeId} {W : World} {g : Nat} {zs : List Int} (h : Blk T W g zs) (j : Nat) : W.frozen? ⟨g, j, none⟩ = false := by
  simp [World.frozen?, show W.heap[g]? = _ from h]
theorem Blk.new (T : TypeId) (W : World) (zs : List Int) : Blk T (W.alloc (.cells (zs.map iv).toArray T)) W.heap.size zs := by show (W.heap.push _)[W.heap.size]? = _; simp
theorem Blk.to {T : TypeId} {W W' : World} {g : Nat} {zs : List Int} (h : Blk T W g zs) (hb : Below W.heap.size W W') : Blk T W' g zs := (hb.block g h.lt).trans h
theorem Blk.set {T : TypeId} {W : World} {g : Nat} {zs : List Int} (h : Blk T W g zs) (j : Nat) (z : Int) : Blk T (W.setCell ⟨g, j, none⟩ (.int .i64 z)) g (zs.set j z) := by
  obtain ⟨hlt, hk⟩ := Array.getElem?_eq_some_iff.1 h
  show (W.heap.modify g _)[g]? = _
  rw [Array.getElem?_eq_getElem (by rw [Array.size_modify]; exact hlt), Array.getElem_modify_self, hk, List.map_set]
  simp [iv]
theorem Blk.other {T : TypeId} {W : World} {g g' k : Nat} {zs : List Int} {v : Value} (h : Blk T W g zs) (hne : g ≠ g') : Blk T (W.setCell ⟨g', k, none⟩ v) g zs :=
  (Below.heap_setCell W ⟨g', k, none⟩ v g hne).trans h
theorem Blk.drewN {T : TypeId} {W : World} {g : Nat} {zs : List Int} (h : Blk T W g zs) (k : Nat) : Blk T (W.drewN k) g zs := h

/-- A struct of four ints, stored. -/
def set4 (W : World) (g : Nat) (a b c d : Int) : World := (((W.setCell ⟨g, 0, none⟩ (.int .i64 a)).setCell ⟨g, 1, none⟩ (.int .i64 b)).setCell ⟨g, 2, none⟩ (.int .i64 c)).setCell ⟨g, 3, none⟩ (.int .i64 d)
theorem Blk.set4 {T : TypeId} {W : World} {g : Nat} {a b c d : Int} (h : Blk T W g [a, b, c, d]) (a' b' c' d' : Int) : Blk T (set4 W g a' b' c' d') g [a', b', c', d'] := (((h.set 0 a').set 1 b').set 2 c').set 3 d'
theorem Blk.other4 {T : TypeId} {W : World} {g g' : Nat} {zs : List Int} (h : Blk T W g zs) (hne : g ≠ g') (a b c d : Int) : Blk T (Proofs.Ytecedmjhhaabgaa.set4 W g' a b c d) g zs := (((h.other hne).other hne).other hne).other hne
theorem below_set4 {B : Nat} {w0 W : World} (h : Below B w0 W) {g : Nat} (hg : B ≤ g) (a b c d : Int) : Below B w0 (set4 W g a b c d) :=
  (((h.setCell (p := ⟨g, 0, none⟩) hg _).setCell (p := ⟨g, 1, none⟩) hg _).setCell (p := ⟨g, 2, none⟩) hg _).setCell (p := ⟨g, 3, none⟩) hg _

/-- 'out = append(out, z)' of one int: blocks of another type stay. -/
theorem wpList_pushZX {P : Program} {T U : TypeId} (L : ZT P T U) {ops : Array Oper} {rest : List Oper} {o : Oper} {a : Act} {Q : Exit → Act → World → Prop} (hgd : o.guard = none) (s x : Operand)
    (ho : o.op = .call { callee := .builtin .append, args := #[s, x], argTypes := #[T, T] }) {B n : Nat} {w wr : World} {v : Value} {xs : List Int} {z : Int} (hs : a.eval s = v)
    (hx : a.eval x = .slice (some ⟨wr.heap.size, 0, none⟩) 1 1) (hown : wr.ownsRow B U 1 v n (xs.map iv)) (hb : Below B w wr) (hB : B ≤ wr.heap.size) (hk : n + 1 ≤ 17592186044416)
    (h : ∀ v' w1, w1.ownsRow B U 1 v' (n + 1) ((xs ++ [z]).map iv) → Below B w w1 → wr.heap.size ≤ w1.heap.size → (∀ T' g zs, T' ≠ U → Blk T' wr g zs → Blk T' w1 g zs) → wpList P ops Q rest (a.put o.dst v') w1) : wpList P ops Q (o :: rest) a (wr.alloc (.cells #[.int .i64 z] U)) := by
  obtain ⟨i0, hi, hz0, hz1, hz2⟩ := info_parts L.info
  refine wpList_append_own _ hgd s x T ho B U i0 (.int .i64 0) 1 8 L.ul hi hz0 hz1 hz2 rfl (by decide) v n _ hs (hown.alloc _) ⟨wr.heap.size, 0, none⟩ 1 1 [.int .i64 z] hx rfl (cell_one_new _ _ _) ?_ ?_ ?_ ?_ ?_
  · intro u hu; simp at hu; subst hu; rfl
  · unfold maxLen; omega
  · omega
  · simp; omega
  · intro v' w1 hown' hgrow _
    have hz' := hgrow.size
    simp at hz'
    refine h v' w1 (by rw [List.map_append]; exact hown') ((hb.alloc hB _).grown hgrow (by simp; omega) (fun j hj => (hown.lt j hj).1)) (by omega) fun T' g zs hT hx => ?_
    have hlt := hx.lt
    have hx' : Blk T' (wr.alloc (.cells #[.int .i64 z] U)) g zs := (Below.heap_alloc wr _ g hlt).trans hx
    refine (hgrow.block g (by simp; omega) fun e => ?_).trans hx'
    rcases hown.2 with ⟨rfl, _⟩ | ⟨g', cap, cur, rfl, _, hh, _⟩
    · cases e
    · have eg : g = g' := by simpa [Value.ownBlock] using e
      subst eg
      have := hh.symm.trans hx
      simp only [Option.some.injEq, Obj.cells.injEq] at this
      exact hT this.2.1.symm
end

/- Contracts of the program's schedule package: find, At, Whole, Ticks. -/
section
open Go.RowKit
set_option linter.unusedVariables false
set_option linter.unusedSimpArgs false

theorem intsZ : ZT Try.prog 34 3 := ⟨Try.underlying34, by kernel_rfl⟩
theorem winsP : PT Try.prog 22 59 := ⟨Try.underlying22, by kernel_rfl⟩

def WhR (l : List Reg) (n : Nat) (w : World) (s3 s11 : Value) (wr : World) : Prop :=
  ∃ k m : Nat, k ≤ n ∧ s11 = .int .i64 (k : Int) ∧ wr.ownsRow w.heap.size 3 1 s3 m ((partsW (l.take k)).map iv) ∧ Below w.heap.size w wr
def WhI (l : List Reg) (k g : Nat) (w : World) (s3 s17 : Value) (wr : World) : Prop :=
  ∃ j m : Nat, (j : Int) ≤ (rat l k).1 ∧ s17 = .int .i64 (j : Int) ∧ wr.ownsRow w.heap.size 3 1 s3 m ((partsW (l.take k) ++ List.replicate j (rat l k).2).map iv) ∧ Below w.heap.size w wr ∧ Blk 59 wr g [(rat l k).1, (rat l k).2]
theorem parts_short {l : List Reg} (hm : mayW l = true) {k j : Nat} (hk : k < l.length) (hj : (j : Int) ≤ (rat l k).1) : (partsW (l.take k) ++ List.replicate j (rat l k).2).length ≤ 64 := by
  have h1 := partsW_len (l := l.take k) fun x hx => may_ok hm x (List.mem_of_mem_take hx)
  have h2 := sumW_succ hk
  have h3 := (sumW_take_le (may_ok hm) (k + 1)).2
  have h4 := may_pos hm
  rw [List.length_append, List.length_replicate]
  omega

def slotV (s : Int × Int × Int × Int) : Value := .agg #[.int .i64 s.1, .int .i64 s.2.1, .int .i64 s.2.2.1, .int .i64 s.2.2.2]
def RetS (w : World) (a : (Int × Int × Int × Int) × Int) (e : Ending) (w' : World) : Prop := e = .returned (.tuple #[slotV a.1, .int .i64 a.2]) ∧ Below w.heap.size w w'

def FiI (l : List Reg) (t : Int) (k : Nat) (w1 : World) (s6 s24 : Value) (wr : World) : Prop :=
  ∃ j : Nat, (j : Int) ≤ (rat l k).1 ∧ s24 = .int .i64 (j : Int) ∧ s6 = .int .i64 (sumW (l.take k) + (j : Int)) ∧ sumW (l.take k) + (j : Int) ≤ t ∧ wr = w1

def TiR (xs : List Int) (p : Int) (w1 : World) (s5 s11 : Value) (wr : World) : Prop :=
  ∃ k : Nat, k ≤ xs.length ∧ s11 = .int .i64 (k : Int) ∧ s5 = .int .i64 ((xs.take k).count p : Int) ∧ wr = w1
end
end Go.Proofs.Ytecedmjhhaabgaa
