/- The disk's cache: a map from ints to arrays of 64 bytes: what its block reads as (MapIs), looked up, stored into, cleared; its keys sorted by the library. -/
import Derived.Test.YtopilgedcnbdaaaDoorTz
import Derived.Test.YtopilgedcnbdaaaDoorShelf
import Derived.Test.YtopilgedcnbdaaaDoorKitO
import Derived.Test.YtopilgedcnbdaaaDoorDiskM
import Derived.Maps.OwnOps
import Derived.Maps.OwnSet
import Derived.Lib.SlKeysI
namespace Go.Proofs.YtopilgedcnbdaaaDoor
set_option maxRecDepth 1000000
set_option maxHeartbeats 8000000
open Go.RowKit Go.Maps Go.Sort Go.Shelf
open Go.WideElems (Fit rd rg)
open Go.ChangeMaps
set_option linter.unusedVariables false
set_option linter.unusedSimpArgs false
abbrev RV : Value → Option (DataW Value × List MemPlace) := fun v => some (.held v, [])
abbrev keyL (z : Int) : Lit := .int .i64 z
def secV (bs : List UInt8) : Value := .agg (arrB bs)
theorem secV_inj {a b : List UInt8} (h : secV a = secV b) : a = b := by
 unfold secV arrB at h
 injection h with h
 have h := congrArg Array.toList h
 simp only at h
 have inj : ∀ {x y : List UInt8}, x.map bval = y.map bval → x = y := by
  intro x
  induction x with
  | nil => intro y h; cases y with
   | nil => rfl
   | cons => simp at h
  | cons a x ih => intro y h; cases y with
   | nil => simp at h
   | cons b y =>
    simp only [List.map_cons, List.cons.injEq, bval, Value.int.injEq, true_and] at h
    rw [ih h.2, UInt8.toNat_inj.1 (by omega : a.toNat = b.toNat)]
 exact inj h
def caOf (L : List Sec) (z : Int) : Option (List UInt8) := if 0 ≤ z ∧ z < L.length then (secAt L z.toNat).2 else none
structure Cached (D : DataW Value) (L : List Sec) : Prop where
 yes : ∀ z c, caOf L z = some c → Maps.has D (keyL z) = true ∧ ∀ zd, D.atKey (keyL z) zd = .held (secV c)
 no : ∀ z, caOf L z = none → Maps.has D (keyL z) = false
def MapIs (w : World) (b : Nat) (L : List Sec) : Prop := ∃ D n, w.ownsMap Tryd.prog 3 RV b n D ∧ Cached D L
theorem ownsMap_tight {w : World} {b n : Nat} {D : DataW Value} (h : w.ownsMap Tryd.prog 3 RV b n D) : w.ownsMap Tryd.prog 3 RV b (Maps.size D) D := by
 obtain ⟨es, clock, hb, F, hs, rfl⟩ := h
 refine ⟨es, clock, hb, F, ?_, rfl⟩
 rw [Maps.size_eq, length_read]
 exact Nat.le_refl _
theorem law_int : Keyed Tryd.prog 3 := int_keyed Tryd.underlying3
theorem MapIs.lt {w : World} {b : Nat} {L : List Sec} (h : MapIs w b L) : b < w.heap.size := by
 obtain ⟨D, n, h, _⟩ := h
 exact h.lt
theorem MapIs.block {w w' : World} {b : Nat} {L : List Sec} (h : MapIs w b L) (hb : w'.heap[b]? = w.heap[b]?) : MapIs w' b L := by
 obtain ⟨D, n, ⟨es, clock, h1, h2, h3, h4⟩, hc⟩ := h
 exact ⟨D, n, ⟨es, clock, hb.trans h1, h2, h3, h4⟩, hc⟩
theorem caOf_nat {L : List Sec} {i : Nat} (h : i < L.length) : caOf L (i : Int) = (secAt L i).2 := by
 unfold caOf
 rw [if_pos (by omega), Int.toNat_natCast]
theorem caOf_nil (z : Int) : caOf [] z = none := by
 unfold caOf
 split
 ·rename_i h
  simp at h
  omega
 ·rfl
theorem caOf_none {L : List Sec} (h : ∀ x ∈ L, x.2 = none) (z : Int) : caOf L z = none := by
 unfold caOf
 split
 ·exact h _ (secAt_mem (by omega))
 ·rfl
theorem secAt_set {L : List Sec} {i j : Nat} (h : i < L.length) (s : Sec) : secAt (L.set i s) j = if i = j then s else secAt L j := by
 unfold secAt
 simp only [List.getD, List.getElem?_set]
 by_cases e : i = j
 ·subst e; simp [h]
 ·simp [e]
theorem caOf_set {L : List Sec} {i : Nat} (h : i < L.length) (s : Sec) (z : Int) : caOf (L.set i s) z = if z = (i : Int) then s.2 else caOf L z := by
 unfold caOf
 rw [List.length_set]
 by_cases hz : 0 ≤ z ∧ z < (L.length : Int)
 ·rw [if_pos hz, if_pos hz, secAt_set h]
  by_cases e : z = (i : Int)
  ·rw [if_pos e, if_pos (by omega)]
  ·rw [if_neg e, if_neg (by omega)]
 ·rw [if_neg hz, if_neg hz, if_neg (by omega)]
def dirtyI (L : List Sec) : List Int := (dirtyL L).map (fun i : Nat => (i : Int))
theorem dirtyI_mem (L : List Sec) (z : Int) : z ∈ dirtyI L ↔ (caOf L z).isSome = true := by
 unfold dirtyI caOf
 rw [List.mem_map]
 constructor
 ·rintro ⟨i, hi, rfl⟩
  obtain ⟨h1, h2⟩ := (dirtyL_mem L i).1 hi
  rw [if_pos (by omega), Int.toNat_natCast]
  exact h2
 ·intro h
  split at h
  ·rename_i hz
   exact ⟨z.toNat, (dirtyL_mem L _).2 ⟨by omega, h⟩, by omega⟩
  ·simp at h
theorem dirtyI_sorted (L : List Sec) : (dirtyI L).Pairwise (· < ·) := by
 unfold dirtyI
 exact List.pairwise_map.2 ((dirtyFrom_sorted 0 L).imp (fun h => by omega))
theorem perm_keys {w : World} {b n : Nat} {D : DataW Value} {L : List Sec} (h : w.ownsMap Tryd.prog 3 RV b n D) (hc : Cached D L) : (dirtyI L).Perm (intKeys D) := by
 obtain ⟨es, hD, hpw, _⟩ := h.entries law_int
 obtain ⟨es', hD', hko⟩ := h.keysOf
 obtain rfl : es = es' := by rw [hD] at hD'; simpa using hD'
 subst hD
 refine perm_intKeys hpw (fun p hp => by obtain ⟨v, hv⟩ := hko p hp; obtain ⟨x, _, hx, _⟩ := Maps.keyOf_i64 Tryd.underlying3 hv; exact ⟨x, hx⟩) ?_ (fun x => ?_)
 ·exact (dirtyI_sorted L).imp (fun h => by omega)
 ·rw [dirtyI_mem]
  cases hx : caOf L x with
  | none => simp [hc.no x hx]
  | some c => simp [(hc.yes x c hx).1]
theorem size_keys {w : World} {b n : Nat} {D : DataW Value} {L : List Sec} (h : w.ownsMap Tryd.prog 3 RV b n D) (hc : Cached D L) : Maps.size D ≤ L.length := by
 have h1 := (perm_keys h hc).length_eq
 obtain ⟨es, rfl, _⟩ := h.entries law_int
 simp only [intKeys, List.length_map, dirtyI] at h1
 rw [Maps.size_eq, ← h1]
 exact dirtyFrom_le 0 L
theorem merge_dirty {D : DataW Value} {L : List Sec} {ss : List Int} (h1 : (dirtyI L).Perm (intKeys D)) (h2 : ss.Perm (intKeys D)) : ss.mergeSort (fun x y => decide (x ≤ y)) = dirtyI L := by
 rw [mergeSort_of_perm_i (h2.trans h1.symm)]
 exact List.mergeSort_of_pairwise ((dirtyI_sorted L).imp (fun h => by simp only [leI, decide_eq_true_eq]; omega))
theorem sortsA (m : Nat) : AnyZI.SortsIn Tryd.prog shSorted_ren Fence.wide m :=
 ⟨fun blk off cap ss W hH hblk hsz => callsIn_wide.2 (AnyM.slices_Sort_int shSort blk off cap ss W hH hblk hsz),
  fun p cap W => callsIn_wide.2 (AnyM.slices_Sort_int_none shSort p cap W)⟩
abbrev fKeys : FuncId := 24
abbrev fKeys1 : FuncId := 40
theorem cKeys (mb : Option Nat) (w : World) : Calls Tryd.prog 24 #[.map mb] w fun e w' =>
  e = .returned (.func (.func 40) #[] #[.pointer (some ⟨w.heap.size, 0, none⟩)]) ∧ w' = w.alloc (.cells #[.map mb] 29) :=
 (callsIn_wide (n := 5)).1 (AnyZI.keys_in shKeys Fence.wide 5 trivial rfl mb w)
theorem cSorted (w : World) (g b : Nat) (L : List Sec) (hL : L.length ≤ 1024) (hg : g < w.heap.size) (hm : w.cell? ⟨g, 0, none⟩ = some (.map (some b))) (h : MapIs w b L) :
  Calls Tryd.prog 23 #[.func (.func 40) #[] #[.pointer (some ⟨g, 0, none⟩)]] w fun e w' =>
   ∃ A c, e = .returned (.slice A (dirtyL L).length c) ∧ w'.ownsRow w.heap.size 3 1 (.slice A (dirtyL L).length c) (dirtyL L).length ((dirtyL L).map (kv .i64)) ∧ Below w.heap.size w w' := by
 obtain ⟨D, n, hown, hc⟩ := h
 have hsz := size_keys hown hc
 have hown := ownsMap_tight hown
 have hseq : SeqGives Fence.wide 2 Tryd.prog 40 #[.pointer (some ⟨g, 0, none⟩)] encZ (fun ss => ss.Perm (intKeys D)) (Maps.size D) w :=
  AnyZI.keys_gives (ρ := shKeys_ren) { shKeys with } Fence.wide _ trivial rfl (by omega) g b (Maps.size D) D w hg hm hown
 have cS := AnyZI.sorted_in shSorted Fence.wide 5 trivial trivial trivial trivial rfl (by omega) (sortsA _) (enters_of Tryd.func39 (by kernel_rfl) rfl) 40 #[.pointer (some ⟨g, 0, none⟩)] trivial (enters_of Tryd.func40 (by kernel_rfl) rfl) _ _ (by unfold maxLen; omega) (by omega) w hseq
 refine ((callsIn_wide (n := 5)).1 cS).mono ?_
 rintro e w' ⟨v, ss, rfl, hS, hrow, _, hb⟩
 have hms := merge_dirty (perm_keys hown hc) hS
 have hl : ss.length = (dirtyL L).length := by
  have := congrArg List.length hms
  simpa [dirtyI, List.length_mergeSort] using this
 rw [hms, hl] at hrow
 have e : (dirtyI L).map encZ = (dirtyL L).map (kv .i64) := by
  unfold dirtyI
  rw [List.map_map]
  rfl
 rw [e] at hrow
 obtain ⟨A, c, rfl⟩ := own_slice hrow
 exact ⟨A, c, rfl, hrow, hb⟩
theorem cSortedNil (w : World) (g : Nat) (hg : g < w.heap.size) (hm : w.cell? ⟨g, 0, none⟩ = some (.map none)) :
  Calls Tryd.prog 23 #[.func (.func 40) #[] #[.pointer (some ⟨g, 0, none⟩)]] w fun e w' => e = .returned (.slice none 0 0) ∧ Below w.heap.size w w' := by
 have hseq : SeqGives Fence.wide 2 Tryd.prog 40 #[.pointer (some ⟨g, 0, none⟩)] encZ (fun ss : List Int => ss = []) 0 w :=
  AnyZI.keys_gives_nil (ρ := shKeys_ren) { shKeys with } Fence.wide _ trivial rfl g w hg hm
 have cS := AnyZI.sorted_in shSorted Fence.wide 5 trivial trivial trivial trivial rfl (by omega) (sortsA _) (enters_of Tryd.func39 (by kernel_rfl) rfl) 40 #[.pointer (some ⟨g, 0, none⟩)] trivial (enters_of Tryd.func40 (by kernel_rfl) rfl) _ 0 (by unfold maxLen; omega) (by omega) w hseq
 refine ((callsIn_wide (n := 5)).1 cS).mono ?_
 rintro e w' ⟨v, ss, rfl, hS, hrow, hnil, hb⟩
 subst hS
 obtain rfl : v = .slice none 0 0 := hnil.2 rfl
 exact ⟨rfl, hb⟩
theorem Cached.put {w : World} {b n : Nat} {D : DataW Value} {L : List Sec} (h : w.ownsMap Tryd.prog 3 RV b n D) (hc : Cached D L) {i : Nat} (hi : i < L.length) (f bs : List UInt8) : Cached (D.put (keyL i) (.held (secV bs))) (L.set i (f, some bs)) := by
 have hD := h.isMap
 have hk : WideAt.IsKeyLit (keyL (i : Int)) := by simp [WideAt.IsKeyLit]
 refine ⟨fun z c hz => ?_, fun z hz => ?_⟩
 ·rw [caOf_set hi] at hz
  by_cases e : z = (i : Int)
  ·subst e
   rw [if_pos rfl] at hz
   injection hz with hz
   subst hz
   exact ⟨Maps.has_put_same hD hk _, fun zd => Maps.atKey_put_same hD hk _ _⟩
  ·rw [if_neg e] at hz
   obtain ⟨h1, h2⟩ := hc.yes z c hz
   have hne : keyL z ≠ keyL (i : Int) := fun h => e (by injection h)
   exact ⟨by rw [Maps.has_put_other hne]; exact h1, fun zd => by rw [Maps.atKey_put_other hne]; exact h2 zd⟩
 ·rw [caOf_set hi] at hz
  by_cases e : z = (i : Int)
  ·subst e
   rw [if_pos rfl] at hz
   cases hz
  ·rw [if_neg e] at hz
   have hne : keyL z ≠ keyL (i : Int) := fun h => e (by injection h)
   rw [Maps.has_put_other hne]
   exact hc.no z hz
theorem Cached.none {L : List Sec} (h : ∀ x ∈ L, x.2 = none) : Cached (.map []) L := ⟨fun z c hz => (by rw [caOf_none h] at hz; cases hz), fun z _ => rfl⟩
theorem MapIs.made (w : World) {L : List Sec} (h : ∀ x ∈ L, x.2 = none) : MapIs (w.alloc (.map #[] 0)) w.heap.size L := ⟨_, _, World.ownsMap_made w Tryd.prog 3 RV, Cached.none h⟩
theorem wf_nat {i : Nat} (h : i ≤ 9223372036854775807) : (Lit.int .i64 (i : Int)).wf = true := by
 have h1 : IntKind.i64.min = -9223372036854775808 := rfl
 have h2 : IntKind.i64.max = 9223372036854775807 := rfl
 simp only [Lit.wf, Bool.and_eq_true, decide_eq_true_eq, h1, h2]
 omega
theorem MapIs.store {w : World} {b : Nat} {L : List Sec} (h : MapIs w b L) (hL : L.length ≤ 1024) {i : Nat} (hi : i < L.length) (f bs : List UInt8) :
  ∃ w', (Instr.mapUpdate 29 (.map (some b)) (.int .i64 (i : Int)) (secV bs)).run Tryd.prog w = .ok () w' ∧ MapIs w' b (L.set i (f, some bs)) ∧ w.grownBy w' (some b) ∧ w.mapTurned w' b := by
 obtain ⟨D, n, hown, hc⟩ := h
 have hsz := size_keys hown hc
 have hown := ownsMap_tight hown
 obtain ⟨w', hrun, h1, h2⟩ := hown.store law_int Tryd.underlying29 (by unfold maxLen; omega) (keyOf_int_mk Tryd.underlying3 (wf_nat (i := i) (by omega))) (val := secV bs) (ps := []) rfl
 exact ⟨w', hrun, ⟨_, _, h1, hc.put hown hi f bs⟩, h2.grown, h2⟩
theorem MapIs.clear {w : World} {b : Nat} {L : List Sec} (h : MapIs w b L) {L' : List Sec} (h' : ∀ x ∈ L', x.2 = none) (ty : TypeId) :
  ∃ w', (Builtin.clear_ #[29] ty #[.map (some b)]).run Tryd.prog w = .ok (.tuple #[]) w' ∧ MapIs w' b L' ∧ w.mapTurned w' b := by
 obtain ⟨D, n, ⟨es, clock, hb, F, hs, hD⟩, hc⟩ := h
 refine ⟨setBlock w b (.map #[] clock), ?_, ⟨.map [], 0, ⟨#[], clock, heap_setBlock_same hb _, ⟨by simp, MapKept.stamped_empty clock, by simp⟩, Nat.le_refl _, rfl⟩, Cached.none h'⟩, ⟨es, clock, #[], clock, hb, rfl⟩⟩
 simp [Builtin.clear_, run_underlying Tryd.underlying29, MapKept.run_getObj_map hb, MapKept.run_setObj_map _ hb, setBlock]
theorem MapIs.look {w : World} {b : Nat} {L : List Sec} (h : MapIs w b L) (hL : L.length ≤ 1024) {i : Nat} (hi : i < L.length) {z : Value} (hz : (zeroValue 73).run Tryd.prog w = .ok z w) :
  (Instr.lookup 29 (.map (some b)) (.int .i64 (i : Int)) true).run Tryd.prog w = .ok (.tuple #[((secAt L i).2.map secV).getD z, .bool (secAt L i).2.isSome]) w ∧
  (Instr.lookup 29 (.map (some b)) (.int .i64 (i : Int)) false).run Tryd.prog w = .ok (((secAt L i).2.map secV).getD z) w := by
 obtain ⟨D, n, hown, hc⟩ := h
 have hkey := keyOf_int_mk (P := Tryd.prog) Tryd.underlying3 (wf_nat (i := i) (by omega))
 obtain ⟨v, ps, h1, h2⟩ := hown.look_ok law_int Tryd.underlying29 hz (zd := .held z) (zp := []) rfl hkey
 obtain ⟨v', ps', h3, h4⟩ := hown.lookup law_int Tryd.underlying29 hz (zd := .held z) (zp := []) rfl hkey
 rw [h1, h3]
 have hca := caOf_nat hi
 cases hs : (secAt L i).2 with
 | none =>
  rw [hs] at hca
  have hn := hc.no _ hca
  rw [Maps.atKey_of_not_has hn] at h2 h4
  injection h2 with h2; injection h2 with h2; injection h2 with h2
  injection h4 with h4; injection h4 with h4; injection h4 with h4
  simp [h2, h4, hn]
 | some c =>
  rw [hs] at hca
  obtain ⟨hy, hat⟩ := hc.yes _ _ hca
  rw [hat] at h2 h4
  injection h2 with h2; injection h2 with h2; injection h2 with h2
  injection h4 with h4; injection h4 with h4; injection h4 with h4
  simp [h2, h4, hy]
end Go.Proofs.YtopilgedcnbdaaaDoor