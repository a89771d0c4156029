/- Several texts in one (a claim has 60 files at most): HeldE, BClone, ChQ, ChT, ChD. -/
import Derived.Test.YtlmdidblgeeplaaGreatDoorTz
import Derived.OrdersHeld
import Derived.Deep.RegionHeld
import Derived.Test.YtlmdidblgeeplaaGreatDoorPPadx
import Derived.Lib.SliceRun
import Derived.Test.YtlmdidblgeeplaaGreatDoorPChPx
import Derived.Deep.WholeRow
import Derived.Lib.Bytealg
import Derived.Deep.Cut
namespace Go.Proofs.YtlmdidblgeeplaaGreatDoor
set_option maxRecDepth 1000000
set_option maxHeartbeats 8000000
set_option linter.unusedVariables false
set_option linter.unusedSimpArgs false
section
open Go
section
variable {P : Program} {md : Region.Mode} {ops : Array Oper} {Q : Exit → Act → World → Prop} {S : World → Prop} {m : Nat}
def AnyE (P : Program) (md : Region.Mode) (ops : Array Oper) (Q : Exit → Act → World → Prop) (S : World → Prop) (m : Nat) : Nat → Array Bool → Act → World → Prop
 | 0, L, a, w => Region.ready md ops L = [] ∧ Q .normal a w
 | f + 1, L, a, w => (Region.ready md ops L = [] → Q .normal a w) ∧
   ∀ j, j ∈ Region.ready md ops L → wpOp P ops Q j (fun a1 w1 => ((L.setIfInBounds j true).getD m true = false → S w1) ∧ AnyE P md ops Q S m f (L.setIfInBounds j true) a1 w1) a w
theorem AnyE.plain : ∀ {f : Nat} {L : Array Bool} {a : Act} {w : World}, AnyE P md ops Q S m f L a w → wpAny P md ops Q f L a w
 | 0, _, _, _, h => h
 | _ + 1, _, _, _, h => ⟨h.1, fun j hj => wpOp_mono (fun _ _ h1 => AnyE.plain h1.2) (h.2 j hj)⟩
def Waits (md : Region.Mode) (ops : Array Oper) (i : Nat) (Bl : List Nat) : Prop :=
 ∀ j ∈ Bl, j ≠ i → ∃ o, ops[j]? = some o ∧ ∃ e ∈ o.after, Region.binds md e = true ∧ e.on ∈ Bl
theorem Waits.out {i : Nat} {Bl : List Nat} {L : Array Bool} (h : Waits md ops i Bl) (hu : ∀ j ∈ Bl, L.getD j true = false) {j : Nat} (hj : j ∈ Region.ready md ops L) (hne : j ≠ i) : j ∉ Bl := fun hb => by
 obtain ⟨o, ho, e, he, hbi, hon⟩ := h j hb hne
 obtain ⟨_, o', ho', hall⟩ := mem_ready.1 hj
 rw [ho] at ho'
 injection ho' with ho'
 subst ho'
 have h1 := hall e he hbi
 have h2 := hu e.on hon
 rcases Nat.lt_or_ge e.on L.size with g | g
 ·rw [Array.getD_eq_getD_getElem?, Array.getElem?_eq_getElem g] at h1 h2
  simp only [Option.getD_some] at h1 h2
  rw [h1] at h2; cases h2
 ·rw [Array.getD_eq_getD_getElem?, Array.getElem?_eq_none g] at h1
  cases h1
theorem AnyE.first {i : Nat} {oi : Oper} {v : Value} (hi : ops[i]? = some oi) (hsel : Region.noSelect ops = true) (hQ : ∀ c a w, Q (.panic c) (a.put oi.dst v) w → Q (.panic c) a w)
  {Bl : List Nat} (hW : Waits md ops i Bl) (hib : i ∈ Bl) (hmb : m ∈ Bl) (hmi : m ≠ i) : ∀ (f : Nat) (L : Array Bool) (a : Act) (w : World),
   (∀ j oj, ops[j]? = some oj → j ≠ i → L.getD j true = false → (∀ e ∈ oj.after, Region.binds md e = true → e.on ≠ i) → oi.apart ops oj = true) →
   (∀ j ∈ Bl, L.getD j true = false) → i ∈ Region.ready md ops L → YieldsIf P ops S oi v a → S w →
   AnyE P md ops Q S m f (L.setIfInBounds i true) (a.put oi.dst v) w → AnyE P md ops Q S m (f + 1) L a w
 | f, L, a, w, hap, hu, hr, hy, hS, H => by
  refine ⟨fun h0 => (by rw [h0] at hr; cases hr), fun j hj => ?_⟩
  by_cases hji : j = i
  ·rw [hji]; exact hy.wpOp hi hS ⟨fun _ => hS, H⟩
  have hj2 : j ∈ Region.ready md ops (L.setIfInBounds i true) := ready_mono hj hji
  have hjb : j ∉ Bl := hW.out hu hj hji
  have hjm : j ≠ m := fun e => hjb (e ▸ hmb)
  cases f with
  | zero => rw [H.1] at hj2; cases hj2
  | succ f =>
   obtain ⟨hjun, oj, hoj, hall⟩ := mem_ready.1 hj
   have hdirect : ∀ e ∈ oj.after, Region.binds md e = true → e.on ≠ i := fun e he hb eq => by
    have h1 := hall e he hb
    have h0 := (mem_ready.1 hr).1
    rw [eq] at h1
    rcases Nat.lt_or_ge i L.size with g | g
    ·rw [Array.getD_eq_getD_getElem?, Array.getElem?_eq_getElem g] at h0 h1
     simp only [Option.getD_some] at h0 h1
     rw [h0] at h1; cases h1
    ·rw [Array.getD_eq_getD_getElem?, Array.getElem?_eq_none g] at h1
     cases h1
   refine wpOp_mono ?_ (wpOp_putIf hoj (hap j oj hoj hji hjun hdirect) (fun cs b => Region.noSelect_spec hsel i oi cs b hi) (fun cs b => Region.noSelect_spec hsel j oj cs b hoj) hQ hy (H.2 j hj2))
   rintro a1 w1 ⟨hy1, hS1, H1⟩
   have hu1 : ∀ x ∈ Bl, (L.setIfInBounds j true).getD x true = false := fun x hx => (getD_set_ne true (show j ≠ x from fun e => hjb (by rw [e]; exact hx))).trans (hu x hx)
   have hS2 : S w1 := hS1 (by rw [getD_set_ne true hjm, getD_set_ne true (Ne.symm hmi)]; exact hu m hmb)
   refine ⟨fun _ => hS2, AnyE.first hi hsel hQ hW hib hmb hmi f (L.setIfInBounds j true) a1 w1 (fun x ox hox hxi hxu hxd => hap x ox hox hxi ?_ hxd) hu1 (ready_mono hr (Ne.symm hji)) hy1 hS2 ?_⟩
   ·by_cases hjx : j = x
    ·exact hjx ▸ hjun
    ·rwa [getD_set_ne true hjx] at hxu
   ·rw [Array.setIfInBounds_comm _ _ hji]; exact H1
def waiters (md : Region.Mode) (ops : Array Oper) (i : Nat) : List Nat :=
 (List.range ops.size).foldl (fun B j => if j == i then B ++ [j] else match ops[j]? with
  | some o => if o.after.any (fun e => Region.binds md e && B.contains e.on) then B ++ [j] else B
  | none => B) []
def takesB (md : Region.Mode) (ops : Array Oper) (L : Array Bool) (m i : Nat) : Bool :=
 let Bl := waiters md ops i
 Bl.contains i && Bl.contains m && m != i && (Bl.all fun j => !L.getD j true) && Bl.all fun j => j == i || match ops[j]? with
  | some o => o.after.any fun e => Region.binds md e && Bl.contains e.on
  | none => false
theorem AnyE.take {i : Nat} {oi : Oper} {v : Value} {f : Nat} {L : Array Bool} {a : Act} {w : World} (hi : ops[i]? = some oi) (hs : Region.noSelect ops = true) (hf : Region.free md ops L i = true) (hr : (Region.ready md ops L).contains i = true) (hb : takesB md ops L m i = true)
  (hQ : ∀ c a w, Q (.panic c) (a.put oi.dst v) w → Q (.panic c) a w) (hy : YieldsIf P ops S oi v a) (hS : S w) (h : AnyE P md ops Q S m f (L.setIfInBounds i true) (a.put oi.dst v) w) : AnyE P md ops Q S m (f + 1) L a w := by
 simp only [takesB, Bool.and_eq_true, bne_iff_ne, ne_eq, List.all_eq_true, Bool.not_eq_true', Bool.or_eq_true, beq_iff_eq, List.contains_iff_mem] at hb
 obtain ⟨⟨⟨⟨h1, h2⟩, h3⟩, h4⟩, h5⟩ := hb
 refine AnyE.first hi hs hQ (Bl := waiters md ops i) (fun j hj hne => ?_) h1 h2 h3 f L a w (Region.free_spec hi hf) h4 (by simpa using hr) hy hS h
 rcases h5 j hj with h6 | h6
 ·exact absurd h6 hne
 ·cases ho : ops[j]? with
  | none => rw [ho] at h6; cases h6
  | some o =>
   rw [ho] at h6
   obtain ⟨e, he, hb⟩ := Array.any_eq_true'.1 h6
   simp only [Bool.and_eq_true, List.contains_iff_mem] at hb
   exact ⟨o, rfl, e, he, hb.1, hb.2⟩
def ReadyE (P : Program) (md : Region.Mode) (ops : Array Oper) (Q : Exit → Act → World → Prop) (S : World → Prop) (m f : Nat) (L : Array Bool) (a : Act) (w : World) (rs : List Nat) : Prop :=
 ∀ i ∈ rs, wpOp P ops Q i (fun a1 w1 => ((L.setIfInBounds i true).getD m true = false → S w1) ∧ AnyE P md ops Q S m f (L.setIfInBounds i true) a1 w1) a w
theorem ReadyE.nil {f : Nat} {L : Array Bool} {a : Act} {w : World} : ReadyE P md ops Q S m f L a w [] := fun _ h => by cases h
theorem ReadyE.cons {f : Nat} {L : Array Bool} {a : Act} {w : World} {i : Nat} {o : Oper} {rs : List Nat} (ho : ops[i]? = some o)
  (h : ∀ K' : Act → World → Prop, Shut (∀ a w, S w → (S w → AnyE P md ops Q S m f (L.setIfInBounds i true) a w) → K' a w) → if Region.wanted o (yielded ops a.tmps) = true then Oper.wp P o a w K' Q else K' (a.put o.dst undef) w)
  (hs : ReadyE P md ops Q S m f L a w rs) : ReadyE P md ops Q S m f L a w (i :: rs) := fun j hj => by
 rcases List.mem_cons.1 hj with rfl | hj
 ·exact wpOp_step ho (fun K' hK => h K' (fun a w hS hW => hK a w ⟨fun _ => hS, hW hS⟩))
 ·exact hs j hj
theorem ReadyE.last {f : Nat} {L : Array Bool} {a : Act} {w : World} {i : Nat} {o : Oper} (ho : ops[i]? = some o) (hi : (L.setIfInBounds i true).getD m true = true)
  (h : ∀ K' : Act → World → Prop, Shut (∀ a w, True → (True → AnyE P md ops Q S m f (L.setIfInBounds i true) a w) → K' a w) → if Region.wanted o (yielded ops a.tmps) = true then Oper.wp P o a w K' Q else K' (a.put o.dst undef) w) :
  ReadyE P md ops Q S m f L a w [i] := fun j hj => by
 obtain rfl : j = i := by simpa using hj
 exact wpOp_step ho (fun K' hK => h K' (fun a w hS hW => hK a w ⟨fun h => (by rw [hi] at h; cases h), hW trivial⟩))
theorem AnyE.ready {rs : List Nat} {f : Nat} {L : Array Bool} {a : Act} {w : World} (hr : Region.ready md ops L = rs) (hne : rs ≠ []) (h : ReadyE P md ops Q S m f L a w rs) : AnyE P md ops Q S m (f + 1) L a w :=
 ⟨fun h0 => absurd (hr ▸ h0) hne, fun j hj => h j (hr ▸ hj)⟩
theorem AnyE.done {L : Array Bool} {a : Act} {w : World} (hr : Region.ready md ops L = []) (h : Q .normal a w) : ∀ f, AnyE P md ops Q S m f L a w
 | 0 => ⟨hr, h⟩
 | _ + 1 => ⟨fun _ => h, fun j hj => by rw [hr] at hj; cases hj⟩
theorem AnyE.start {id : Nat} {a : Act} {w : World} (hm : P.follows .mixedOrders = true) (hS : S w.drew) (h : S w.drew → AnyE P .any ops Q S m ops.size (Array.replicate ops.size false) a w.drew) : (Code.region id ops true).wp P Q a w :=
 wp_region_any hm (h hS).plain
end
end
section
open Go.RowKit
theorem bClone (A : Option Addr) (n c : Nat) (bs : List UInt8) (w : World) (h : Rd w w.heap.size A n bs) (hn : n ≤ 140737488355328) :
  Calls Tryz.prog 162 #[.slice A n c] w fun e w' => RetR w bs e w' := by
 have R := qH h
 have HN := qH hn
 have qT : ∀ (w : World) (a : Option Addr) (n c n' c' : Nat), (binOp .eql 31 (.slice a n c) (.slice none n' c')).run Tryz.prog w = .ok (.bool a.isNone) w := fun w a n c n' c' => Lib.run_eql_slice_nil w _ _ a n c n' c' Tryz.underlying31
 clear h hn
 rcases A with _ | a
 ·obtain rfl : n = 0 := by
   rcases Nat.eq_zero_or_pos n with h0 | h0
   ·exact h0
   ·obtain ⟨_, _, e, _⟩ := R.out.2 h0; cases e
  have HL := qH (List.eq_nil_of_length_eq_zero R.out.1)
  go_enter Tryz.func162, Tryz.ntmps162
  go_wp2_with fail
  go_ret
  exact ⟨none, 0, 0, rfl, by rw [HL.out]; exact ⟨Rd.nil _ _ _, fun h => absurd h (Nat.lt_irrefl 0)⟩, by omega, by omega, Below.refl _ _⟩
 have R2 := qH (R.out.grow (.cells #[] 5))
 have O := qH (own_top (w := w) (B := w.heap.size) [] 5 (Nat.le_refl _) (by simp) (by decide))
 have B := qH ((Below.refl w.heap.size w).alloc (Nat.le_refl _) (.cells #[] 5))
 go_enter Tryz.func162, Tryz.ntmps162
 go_wp2_with (at_builtin; refine wpList_pushAll isU8 rfl _ _ rfl rfl (bs := []) rfl O.out R2.out B.out B.out.size (by have := HN.out; simp; omega) ?_; intro v1 w1 hown1 hbel1 hsz1)
 go_ret
 rw [List.length_nil, Nat.zero_add, List.nil_append] at hown1
 exact (RetB.mk hown1 hbel1).toR
end
section
open Go.RowKit
end
section
open Go.RowKit
def firstBad (l : List Ch) : Int := match l.findIdx? (fun c => !mayC c) with | some i => (i : Int) | none => -1
theorem firstBad_at {l : List Ch} {i : Nat} (h : i < l.length) (hb : ∀ j, j < i → mayC (chAt l j) = true) (hi : mayC (chAt l i) = false) : firstBad l = (i : Int) := by
 have e : l.findIdx? (fun c => !mayC c) = some i := by
  rw [List.findIdx?_eq_some_iff_getElem]
  refine ⟨h, ?_, fun j hj => ?_⟩
  ·rw [← chAt_lt h, hi]; rfl
  ·rw [← chAt_lt (Nat.lt_trans hj h), hb j hj]; simp
 simp [firstBad, e]
theorem firstBad_none {l : List Ch} (hb : ∀ j, j < l.length → mayC (chAt l j) = true) : firstBad l = -1 := by
 have : l.findIdx? (fun c => !mayC c) = none := by
  rw [List.findIdx?_eq_none_iff]
  intro x hx
  obtain ⟨i, hi, rfl⟩ := List.getElem_of_mem hx
  rw [← chAt_lt hi, hb i hi]; rfl
 simp [firstBad, this]
def badC (l : List Ch) : Bool := l.any fun c => !mayC c
theorem firstBad_any (l : List Ch) : decide (firstBad l ≥ 0) = badC l := by
 unfold firstBad badC
 cases h : l.findIdx? (fun c => !mayC c) with
 | none =>
  rw [List.findIdx?_eq_none_iff] at h
  have : l.any (fun c => !mayC c) = false := by rw [List.any_eq_false]; intro x hx; simpa using h x hx
  rw [this]; rfl
 | some i =>
  rw [List.findIdx?_eq_some_iff_getElem] at h
  obtain ⟨hi, h1, _⟩ := h
  have : l.any (fun c => !mayC c) = true := by rw [List.any_eq_true]; exact ⟨_, List.getElem_mem hi, h1⟩
  rw [this]; simp
theorem badC_false {l : List Ch} (h : badC l = false) {j : Nat} (hj : j < l.length) : mayC (chAt l j) = true := by
 unfold badC at h
 rw [List.any_eq_false] at h
 have := h _ (List.getElem_mem hj)
 rw [chAt_lt hj]
 simpa using this
theorem wBadC (a b d e s : Int) (w : World) :
  Calls Tryz.prog 214 #[.agg #[.int .i64 a, .int .i64 b, .int .i64 d, .int .i64 e, .int .i64 s]] w fun x w' => x = .returned (.bool (!mayC ⟨a, b, d, e, s⟩)) ∧ Below w.heap.size w w' := by
 have B := qH ((Below.refl w.heap.size w).alloc (Nat.le_refl _) (.cells #[.int .i64 a, .int .i64 b, .int .i64 d, .int .i64 e, .int .i64 s] 130))
 go_enter Tryz.func214, Tryz.ntmps214
 go_wp2_with fail
 refine (wMay a b d e s _).mono ?_
 rintro x w1 ⟨rfl, hb⟩
 replace B := qH (B.out.trans (hb.mono B.out.size))
 obtain ⟨y, hy⟩ : ∃ y, mayC ⟨a, b, d, e, s⟩ = y := ⟨_, rfl⟩
 rw [hy]
 have HYY := qH hy
 clear hb hy
 go_wp2_with fail
 go_ret
 exact ⟨ret_bool (by rw [HYY.out]), B.out⟩
theorem wIndexCh (A : Option Addr) (n c : Nat) (l : List Ch) (w : World) (h : RdC w w.heap.size A n l) (hn : n ≤ 1000) :
  Calls Tryz.prog 216 #[.slice A n c, .func (.func 214) #[] #[]] w fun e w' => e = .returned (.int .i64 (firstBad l)) ∧ Below w.heap.size w w' := by
 have R := qH h
 have HN := qH hn
 clear h hn
 go_enter Tryz.func216, Tryz.ntmps216
 go_wp2_with fail
 go_loopw [5, 8] (fun s5 s8 wr => ∃ k : Nat, k ≤ n ∧ s8 = .int .i64 (k : Int) ∧ Below w.heap.size w wr ∧ ∀ j, j < k → mayC (chAt l j) = true) (fun _ s8 _ => n - (intOf s8).toNat)
 case atStart => exact ⟨0, Nat.zero_le _, rfl, Below.refl _ _, fun _ h => absurd h (Nat.not_lt_zero _)⟩
 case round =>
  obtain ⟨k, hk, rfl, hbel, hb⟩ := hrel
  have HB := qH hb
  have B := qH hbel
  clear hb hbel
  by_cases hlt : k < n
  ·have hltI : (k : Int) < (n : Int) := by omega
   have HLT : Hid (k < n) := hlt
   have hwk : IntKind.i64.wrap ((k : Int) + 1) = (k : Int) + 1 := by have := HN.out; rw [IntKind.wrap_i64]; omega
   obtain ⟨bb, o, rfl, x0, x1, x2, x3, x4⟩ := (R.out.below B.out).at_ hlt
   clear hk hlt
   go_wp2_with fail
   refine (wBadC _ _ _ _ _ wr).mono ?_
   rintro e w1 ⟨rfl, hb⟩
   replace B := qH (B.out.trans (hb.mono B.out.size))
   clear hb x0 x1 x2 x3 x4
   obtain ⟨y, hy⟩ : ∃ y, mayC ⟨(chAt l k).id, (chAt l k).fr, (chAt l k).dst, (chAt l k).cap, (chAt l k).size⟩ = y := ⟨_, rfl⟩
   rw [hy]
   have HY : Hid (mayC (chAt l k) = y) := hy
   clear hy
   cases y
   ·have HF := qH (firstBad_at (l := l) (i := k) (by rw [R.out.1]; exact HLT.out) HB.out HY.out)
    go_wp2_with fail
    go_ret
    exact ⟨by rw [HF.out]; rfl, B.out⟩
   ·go_wp2_with fail
    go_roundw
    case rel => exact ⟨k + 1, HLT.out, by go_num, B.out, fun j hj => by
     rcases Nat.lt_succ_iff_lt_or_eq.1 hj with h | rfl
     ·exact HB.out j h
     ·exact HY.out⟩
    case measure => have := HLT.out; simp [intOf]; omega
  ·obtain rfl : k = n := by omega
   have hltI : ¬ (k : Int) < (k : Int) := by omega
   have HF := qH (firstBad_none (l := l) (fun j hj => HB.out j (by rw [R.out.1] at hj; exact hj)))
   clear hk hlt
   go_wp2_with fail
   go_ret
   exact ⟨by rw [HF.out]; rfl, B.out⟩
theorem wContainsC (A : Option Addr) (n c : Nat) (l : List Ch) (w : World) (h : RdC w w.heap.size A n l) (hn : n ≤ 1000) :
  Calls Tryz.prog 197 #[.slice A n c, .func (.func 214) #[] #[]] w fun e w' => e = .returned (.bool (badC l)) ∧ Below w.heap.size w w' := by
 have H := qH (wIndexCh A n c l w h hn)
 have HF := qH (firstBad_any l)
 clear h hn
 go_enter Tryz.func197, Tryz.ntmps197
 go_wp2_with fail
 refine H.out.mono ?_
 rintro e w1 ⟨rfl, hb⟩
 generalize firstBad l = f at *
 have B := qH hb
 clear hb
 go_wp2_with fail
 all_goals (go_ret; refine ⟨ret_bool ?_, B.out⟩; rw [← HF.out]; try simp_all)
def upTo (l : List Ch) (k : Nat) : Prop := ∀ j, j + 1 < k → (chAt l j).id < (chAt l (j + 1)).id
theorem wAll (A : Option Addr) (n c : Nat) (l : List Ch) (w : World) (h : RdC w w.heap.size A n l) (hn : n ≤ 1000) :
  Calls Tryz.prog 196 #[.slice A n c] w fun e w' => e = .returned (.int .i64 (allE l)) ∧ Below w.heap.size w w' := by
 have R := qH h
 have HN := qH hn
 clear h hn
 go_enter Tryz.func196, Tryz.ntmps196
 go_wp2_with fail
 refine (wContainsC A n c l w R.out HN.out).mono ?_
 rintro e w1 ⟨rfl, hb⟩
 have B := qH hb
 clear hb
 cases hy : badC l
 ·have HY := qH hy
  clear hy
  go_wp2_with fail
  go_loopw [3, 10] (fun s3 s10 wr => ∃ k : Nat, k ≤ n ∧ s10 = .int .i64 (k : Int) ∧ s3 = .int .i64 (if k = 0 then 0 else (chAt l (k - 1)).id) ∧ Below w.heap.size w wr ∧ upTo l k) (fun _ s10 _ => n - (intOf s10).toNat)
  case atStart => exact ⟨0, Nat.zero_le _, rfl, rfl, B.out, fun _ h => by omega⟩
  case round =>
   obtain ⟨k, hk, rfl, rfl, hbel, hup⟩ := hrel
   clear B
   have B := qH hbel
   have HUP := qH hup
   clear hbel hup
   by_cases hlt : k < n
   ·have hltI : (k : Int) < (n : Int) := by omega
    have HLT : Hid (k < n) := hlt
    have hwk : IntKind.i64.wrap ((k : Int) + 1) = (k : Int) + 1 := by have := HN.out; rw [IntKind.wrap_i64]; omega
    have HM := qH (badC_false HY.out (j := k) (by rw [R.out.1]; exact hlt))
    obtain ⟨bb, o, rfl, x0, x1, x2, x3, x4⟩ := (R.out.below B.out).at_ hlt
    obtain ⟨p, hp⟩ : ∃ p, (if k = 0 then 0 else (chAt l (k - 1)).id) = p := ⟨_, rfl⟩
    rw [hp]
    have HP := qH hp
    clear hp hk hlt
    replace B := qH (B.out.alloc B.out.size (.cells #[.int .i64 (chAt l k).id, .int .i64 (chAt l k).fr, .int .i64 (chAt l k).dst, .int .i64 (chAt l k).cap, .int .i64 (chAt l k).size] 130))
    by_cases hle : (chAt l k).id ≤ p
    ·have HE : Hid (allE l = 100) := by
      show _ = _
      unfold allE
      rw [if_neg (by rw [show l.any (fun c => !mayC c) = badC l from rfl, HY.out]; simp), if_neg ?_]
      intro ha
      have hp := HP.out
      split at hp
      ·have := (mayC_iff.1 HM.out).1; omega
      ·rename_i hk0
       have := ha (k - 1) (by have := HLT.out; rw [R.out.1]; omega)
       rw [show k - 1 + 1 = k from by omega] at this
       omega
     go_wp2_with fail
     go_ret
     exact ⟨by rw [HE.out]; rfl, B.out⟩
    ·have HGT := qH hle
     go_wp2_with fail
     go_roundw
     case rel => exact ⟨k + 1, HLT.out, by go_num, by rfl, B.out, fun j hj => by
      by_cases hjk : j + 1 < k
      ·exact HUP.out j hjk
      ·obtain rfl : k = j + 1 := by omega
       have h1 := HP.out
       have h2 := HGT.out
       rw [if_neg (by omega)] at h1
       rw [show j + 1 - 1 = j from rfl] at h1
       omega⟩
     case measure => have := HLT.out; simp [intOf]; omega
   ·obtain rfl : k = n := by omega
    have hltI : ¬ (k : Int) < (k : Int) := by omega
    have HE : Hid (allE l = 0) := by
     show _ = _
     unfold allE
     rw [if_neg (by rw [show l.any (fun c => !mayC c) = badC l from rfl, HY.out]; simp), if_pos ?_]
     intro j hj
     exact HUP.out j (by rw [← R.out.1]; exact hj)
    clear hk hlt
    generalize (if k = 0 then 0 else (chAt l (k - 1)).id) = p at *
    go_wp2_with fail
    go_ret
    exact ⟨by rw [HE.out]; rfl, B.out⟩
 ·have HE : Hid (allE l = 2) := by
   show _ = _
   unfold allE
   rw [if_pos (show l.any (fun c => !mayC c) = true from hy)]
  go_wp2_with fail
  go_ret
  exact ⟨by rw [HE.out]; rfl, B.out⟩
end
section
open Go.RowKit
def btw (n lo hi : Int) : Bool := decide (lo ≤ n) && decide (n ≤ hi)
theorem btw_iff {n lo hi : Int} : btw n lo hi = true ↔ lo ≤ n ∧ n ≤ hi := by simp [btw]
theorem rIn (n lo hi : Int) (w : World) : Calls Tryz.prog 218 #[.int .i64 n, .int .i64 lo, .int .i64 hi] w fun e w' => e = .returned (.bool (btw n lo hi)) ∧ w = w' := by
 go_enter Tryz.func218, Tryz.ntmps218
 go_wp2
 all_goals (go_ret; refine ⟨ret_bool ?_, rfl⟩; rw [Bool.eq_iff_iff, btw_iff]; simp only [decide_eq_true_eq, Bool.false_eq_true, false_iff] at *; omega)
theorem rMay (a b d e s : Int) (w : World) :
  Calls Tryz.prog 201 #[.agg #[.int .i64 a, .int .i64 b, .int .i64 d, .int .i64 e, .int .i64 s]] w fun x w' => x = .returned (.bool (mayC ⟨a, b, d, e, s⟩)) ∧ Below w.heap.size w w' := by
 have BB := qH ((Below.refl w.heap.size w).alloc (Nat.le_refl _) (.cells #[.int .i64 a, .int .i64 b, .int .i64 d, .int .i64 e, .int .i64 s] 130))
 go_enter Tryz.func201, Tryz.ntmps201
 go_wp2_with fail
 refine (rIn _ _ _ _).mono ?_
 rintro x w1 ⟨rfl, rfl⟩
 cases h1 : btw a 1 8
 ·
  have HF : Hid (false = mayC ⟨a, b, d, e, s⟩) := by
   show _ = _
   rw [eq_comm, ← Bool.not_eq_true, mayC_iff]
   rw [← Bool.not_eq_true, btw_iff] at h1
   simp only; omega
  clear h1
  go_wp2_with fail
  go_ret
  refine ⟨ret_bool ?_, BB.out⟩
  exact HF.out
 have H1 := qH (btw_iff.1 h1)
 clear h1
 go_wp2_with fail
 refine (rIn _ _ _ _).mono ?_
 rintro x w1 ⟨rfl, rfl⟩
 cases h1 : btw b 1 6
 ·
  have HF : Hid (false = mayC ⟨a, b, d, e, s⟩) := by
   show _ = _
   rw [eq_comm, ← Bool.not_eq_true, mayC_iff]
   rw [← Bool.not_eq_true, btw_iff] at h1
   simp only; omega
  clear h1
  go_wp2_with fail
  go_ret
  refine ⟨ret_bool ?_, BB.out⟩
  exact HF.out
 have H2 := qH (btw_iff.1 h1)
 clear h1
 go_wp2_with fail
 refine (rIn _ _ _ _).mono ?_
 rintro x w1 ⟨rfl, rfl⟩
 cases h1 : btw d 1 6
 ·
  have HF : Hid (false = mayC ⟨a, b, d, e, s⟩) := by
   show _ = _
   rw [eq_comm, ← Bool.not_eq_true, mayC_iff]
   rw [← Bool.not_eq_true, btw_iff] at h1
   simp only; omega
  clear h1
  go_wp2_with fail
  go_ret
  refine ⟨ret_bool ?_, BB.out⟩
  exact HF.out
 have H3 := qH (btw_iff.1 h1)
 clear h1
 by_cases hbd : b = d
 ·have HF : Hid (false = mayC ⟨a, b, d, e, s⟩) := by
   show _ = _
   rw [eq_comm, ← Bool.not_eq_true, mayC_iff]
   simp only; omega
  subst hbd
  go_wp2_with fail
  go_ret
  refine ⟨ret_bool ?_, BB.out⟩
  exact HF.out
 have HBD := qH hbd
 go_wp2_with fail
 refine (rIn _ _ _ _).mono ?_
 rintro x w1 ⟨rfl, rfl⟩
 cases h1 : btw e 1 4
 ·
  have HF : Hid (false = mayC ⟨a, b, d, e, s⟩) := by
   show _ = _
   rw [eq_comm, ← Bool.not_eq_true, mayC_iff]
   rw [← Bool.not_eq_true, btw_iff] at h1
   simp only; omega
  clear h1
  go_wp2_with fail
  go_ret
  refine ⟨ret_bool ?_, BB.out⟩
  exact HF.out
 have H4 := qH (btw_iff.1 h1)
 clear h1
 go_wp2_with fail
 refine (rIn _ _ _ _).mono ?_
 rintro x w1 ⟨rfl, rfl⟩
 cases h1 : btw s 1 16
 ·
  have HF : Hid (false = mayC ⟨a, b, d, e, s⟩) := by
   show _ = _
   rw [eq_comm, ← Bool.not_eq_true, mayC_iff]
   rw [← Bool.not_eq_true, btw_iff] at h1
   simp only; omega
  clear h1
  go_wp2_with fail
  go_ret
  refine ⟨ret_bool ?_, BB.out⟩
  exact HF.out
 have HF : Hid (true = mayC ⟨a, b, d, e, s⟩) := by
  show _ = _
  have := H1.out; have := H2.out; have := H3.out; have := H4.out; have := HBD.out; have := btw_iff.1 h1
  rw [eq_comm, mayC_iff]
  simp only; omega
 clear h1
 go_wp2_with fail
 go_ret
 refine ⟨ret_bool ?_, BB.out⟩
 rw [← HF.out]; simpa using HBD.out
theorem rAll (A : Option Addr) (n c : Nat) (l : List Ch) (w : World) (h : RdC w w.heap.size A n l) (hn : n ≤ 1000) :
  Calls Tryz.prog 176 #[.slice A n c] w fun e w' => e = .returned (.int .i64 (allE l)) ∧ Below w.heap.size w w' := by
 have R := qH h
 have HN := qH hn
 clear h hn
 go_enter Tryz.func176, Tryz.ntmps176
 go_wp2_with fail
 go_loopw [3] (fun s3 wr => ∃ k : Nat, k ≤ n ∧ s3 = .int .i64 (k : Int) ∧ Below w.heap.size w wr ∧ ∀ j, j < k → mayC (chAt l j) = true) (fun s3 _ => n - (intOf s3).toNat)
 case atStart => exact ⟨0, Nat.zero_le _, rfl, Below.refl _ _, fun _ h => absurd h (Nat.not_lt_zero _)⟩
 case round =>
  obtain ⟨k, hk, rfl, hbel, hb⟩ := hrel
  have HB := qH hb
  have B := qH hbel
  clear hb hbel
  by_cases hlt : k < n
  ·have hltI : (k : Int) < (n : Int) := by omega
   have HLT : Hid (k < n) := hlt
   have hwk : IntKind.i64.wrap ((k : Int) + 1) = (k : Int) + 1 := by have := HN.out; rw [IntKind.wrap_i64]; omega
   obtain ⟨bb, o, rfl, x0, x1, x2, x3, x4⟩ := (R.out.below B.out).at_ hlt
   clear hk hlt
   go_wp2_with fail
   refine (rMay _ _ _ _ _ wr).mono ?_
   rintro e w1 ⟨rfl, hb⟩
   replace B := qH (B.out.trans (hb.mono B.out.size))
   clear hb x0 x1 x2 x3 x4
   obtain ⟨y, hy⟩ : ∃ y, mayC ⟨(chAt l k).id, (chAt l k).fr, (chAt l k).dst, (chAt l k).cap, (chAt l k).size⟩ = y := ⟨_, rfl⟩
   rw [hy]
   have HY : Hid (mayC (chAt l k) = y) := hy
   clear hy
   cases y
   ·have HE : Hid (allE l = 2) := by
     show _ = _
     unfold allE
     rw [if_pos]
     rw [List.any_eq_true]
     have hkl : k < l.length := by rw [R.out.1]; exact HLT.out
     exact ⟨l[k], List.getElem_mem hkl, by rw [← chAt_lt hkl, HY.out]; rfl⟩
    go_wp2_with fail
    go_ret
    exact ⟨by rw [HE.out]; rfl, B.out⟩
   ·go_wp2_with fail
    go_roundw
    case rel => exact ⟨k + 1, HLT.out, by go_num, B.out, fun j hj => by
     rcases Nat.lt_succ_iff_lt_or_eq.1 hj with h | rfl
     ·exact HB.out j h
     ·exact HY.out⟩
    case measure => have := HLT.out; simp [intOf]; omega
  ·obtain rfl : k = n := by omega
   have hltI : ¬ (k : Int) < (k : Int) := by omega
   have HOK : Hid (l.any (fun c => !mayC c) = false) := by
    show _ = _
    rw [List.any_eq_false]
    intro x hx
    obtain ⟨i, hi, rfl⟩ := List.getElem_of_mem hx
    rw [← chAt_lt hi, HB.out i (by rw [R.out.1] at hi; exact hi)]
    simp
   clear hk hlt
   go_wp2_with fail
   clear hltI
   go_loopw [4] (fun s4 w2 => ∃ (j q : Nat), 1 ≤ j ∧ (j ≤ k ∨ j = 1) ∧ s4 = .int .i64 (j : Int) ∧ w2 = wr.drewN q ∧ ∀ i, i + 1 < j → (chAt l i).id < (chAt l (i + 1)).id) (fun s4 _ => k - (intOf s4).toNat)
   case atStart => exact ⟨1, 0, Nat.le_refl _, .inr rfl, rfl, rfl, fun _ h => by omega⟩
   case round =>
    obtain ⟨j, q, hj1, hj, rfl, rfl, hup⟩ := hrel
    have HUP := qH hup
    clear hup
    by_cases hlt : j < k
    ·have hltI : (j : Int) < (k : Int) := by omega
     have HLT : Hid (j < k) := hlt
     have HJ1 : Hid (1 ≤ j) := hj1
     have hwk : IntKind.i64.wrap ((j : Int) + 1) = (j : Int) + 1 := by have := HN.out; rw [IntKind.wrap_i64]; omega
     obtain ⟨i, rfl⟩ : ∃ i, j = i + 1 := ⟨j - 1, by omega⟩
     have hwi : IntKind.i64.wrap (((i + 1 : Nat) : Int) - 1) = (i : Int) := by have := HN.out; have := HLT.out; rw [IntKind.wrap_i64]; omega
     obtain ⟨bb, o, rfl, x0, x1, x2, x3, x4⟩ := (R.out.below B.out).at_ hlt
     obtain ⟨bb', o', e', y0, y1, y2, y3, y4⟩ := (R.out.below B.out).at_ (j := i) (by omega)
     injection e' with e'
     injection e' with e1 e2
     subst e1; subst e2
     clear x1 x2 x3 x4 y1 y2 y3 y4 hlt hj hj1
     have hil : i < k := by have := HLT.out; omega
     have hil1 : i + 1 < k := HLT.out
     have hwi2 : IntKind.i64.wrap (i : Int) = (i : Int) := by have := HN.out; rw [IntKind.wrap_i64]; omega
     have hwi3 : IntKind.i64.wrap ((i : Int) + 1 - 1) = (i : Int) := by have := HN.out; rw [IntKind.wrap_i64]; omega
     have hilI : (i : Int) < (k : Int) := by omega
     have hwk3 : IntKind.i64.wrap ((i : Int) + 1 + 1) = (i : Int) + 1 + 1 := by have := HN.out; rw [IntKind.wrap_i64]; omega
     have hwk4 : wrap64 ((i : Int) + 1 + 1) = (i : Int) + 1 + 1 := by have := HN.out; unfold wrap64; omega
     by_cases hle : (chAt l (i + 1)).id ≤ (chAt l i).id
     ·have HE : Hid (allE l = 100) := by
       show _ = _
       unfold allE
       rw [if_neg (by rw [HOK.out]; simp), if_neg ?_]
       intro ha
       have := ha i (by have := HLT.out; rw [R.out.1]; omega)
       omega
      go_wp2_with fail
      go_quiet (fail)
      go_wp2_with fail
      go_ret
      exact ⟨by rw [HE.out]; rfl, below_drewN (below_drewN B.out q) _⟩
     ·have HGT := qH hle
      go_wp2_with fail
      go_quiet (fail)
      go_wp2_with fail
      go_roundw
      case rel => exact ⟨i + 1 + 1, _, by omega, .inl HLT.out, by go_num, rfl, fun x hx => by
       by_cases hxi : x = i
       ·subst hxi; have := HGT.out; omega
       ·exact HUP.out x (by omega)⟩
      case measure => have := HLT.out; simp [intOf]; omega
    ·have hltI : ¬ (j : Int) < (k : Int) := by omega
     have HE : Hid (allE l = 0) := by
      show _ = _
      unfold allE
      rw [if_neg (by rw [HOK.out]; simp), if_pos ?_]
      intro i hi
      exact HUP.out i (by rw [R.out.1] at hi; omega)
     clear hj hlt
     go_wp2_with fail
     go_ret
     exact ⟨by rw [HE.out]; rfl, below_drewN B.out q⟩
end
end Go.Proofs.YtlmdidblgeeplaaGreatDoor