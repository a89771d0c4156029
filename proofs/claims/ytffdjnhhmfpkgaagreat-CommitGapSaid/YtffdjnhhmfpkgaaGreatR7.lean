/- Several texts in one (a claim has 60 files at most): DiskMap, DiskA, DiskB, DiskC, DiskD, DiskE, DiskF, DiskG. -/
import Derived.Test.YtffdjnhhmfpkgaaGreatTz
import Derived.Test.YtffdjnhhmfpkgaaGreatShelf
import Derived.Test.YtffdjnhhmfpkgaaGreatKitO
import Derived.Test.YtffdjnhhmfpkgaaGreatDiskM
import Derived.Maps.OwnOps
import Derived.Maps.OwnSet
import Derived.Lib.SlKeysI
import Derived.Deep.MidRow
import Derived.Deep.WholeRow
import Derived.WalkSpells
import Derived.Lib.SliceRun
import Derived.Laws.CopyOwn
import Derived.Deep.RegionHeld
namespace Go.Proofs.YtffdjnhhmfpkgaaGreat
set_option maxRecDepth 1000000
set_option maxHeartbeats 8000000
set_option linter.unusedVariables false
set_option linter.unusedSimpArgs false
section
open Go.RowKit Go.Maps Go.Sort Go.Shelf
open Go.WideElems (Fit rd rg)
open Go.ChangeMaps
abbrev RV : Value → Option (DataW Value × List MemPlace) := fun v => some (.held v, [])
abbrev keyL (z : Int) : Lit := .int .i64 z
def secV (bs : List UInt8) : Value := .agg (arrB bs)
theorem secV_inj {a b : List UInt8} (h : secV a = secV b) : a = b := by
 unfold secV arrB at h
 injection h with h
 have h := congrArg Array.toList h
 simp only at h
 have inj : ∀ {x y : List UInt8}, x.map bval = y.map bval → x = y := by
  intro x
  induction x with
  | nil => intro y h; cases y with
   | nil => rfl
   | cons => simp at h
  | cons a x ih => intro y h; cases y with
   | nil => simp at h
   | cons b y =>
    simp only [List.map_cons, List.cons.injEq, bval, Value.int.injEq, true_and] at h
    rw [ih h.2, UInt8.toNat_inj.1 (by omega : a.toNat = b.toNat)]
 exact inj h
def caOf (L : List Sec) (z : Int) : Option (List UInt8) := if 0 ≤ z ∧ z < L.length then (secAt L z.toNat).2 else none
structure Cached (D : DataW Value) (L : List Sec) : Prop where
 yes : ∀ z c, caOf L z = some c → Maps.has D (keyL z) = true ∧ ∀ zd, D.atKey (keyL z) zd = .held (secV c)
 no : ∀ z, caOf L z = none → Maps.has D (keyL z) = false
def MapIs (w : World) (b : Nat) (L : List Sec) : Prop := ∃ D n, w.ownsMap Tryz.prog 3 RV b n D ∧ Cached D L
theorem ownsMap_tight {w : World} {b n : Nat} {D : DataW Value} (h : w.ownsMap Tryz.prog 3 RV b n D) : w.ownsMap Tryz.prog 3 RV b (Maps.size D) D := by
 obtain ⟨es, clock, hb, F, hs, rfl⟩ := h
 refine ⟨es, clock, hb, F, ?_, rfl⟩
 rw [Maps.size_eq, length_read]
 exact Nat.le_refl _
theorem law_int : Keyed Tryz.prog 3 := int_keyed Tryz.underlying3
theorem MapIs.lt {w : World} {b : Nat} {L : List Sec} (h : MapIs w b L) : b < w.heap.size := by
 obtain ⟨D, n, h, _⟩ := h
 exact h.lt
theorem MapIs.block {w w' : World} {b : Nat} {L : List Sec} (h : MapIs w b L) (hb : w'.heap[b]? = w.heap[b]?) : MapIs w' b L := by
 obtain ⟨D, n, ⟨es, clock, h1, h2, h3, h4⟩, hc⟩ := h
 exact ⟨D, n, ⟨es, clock, hb.trans h1, h2, h3, h4⟩, hc⟩
theorem caOf_nat {L : List Sec} {i : Nat} (h : i < L.length) : caOf L (i : Int) = (secAt L i).2 := by
 unfold caOf
 rw [if_pos (by omega), Int.toNat_natCast]
theorem caOf_nil (z : Int) : caOf [] z = none := by
 unfold caOf
 split
 ·rename_i h
  simp at h
  omega
 ·rfl
theorem caOf_none {L : List Sec} (h : ∀ x ∈ L, x.2 = none) (z : Int) : caOf L z = none := by
 unfold caOf
 split
 ·exact h _ (secAt_mem (by omega))
 ·rfl
theorem secAt_set {L : List Sec} {i j : Nat} (h : i < L.length) (s : Sec) : secAt (L.set i s) j = if i = j then s else secAt L j := by
 unfold secAt
 simp only [List.getD, List.getElem?_set]
 by_cases e : i = j
 ·subst e; simp [h]
 ·simp [e]
theorem caOf_set {L : List Sec} {i : Nat} (h : i < L.length) (s : Sec) (z : Int) : caOf (L.set i s) z = if z = (i : Int) then s.2 else caOf L z := by
 unfold caOf
 rw [List.length_set]
 by_cases hz : 0 ≤ z ∧ z < (L.length : Int)
 ·rw [if_pos hz, if_pos hz, secAt_set h]
  by_cases e : z = (i : Int)
  ·rw [if_pos e, if_pos (by omega)]
  ·rw [if_neg e, if_neg (by omega)]
 ·rw [if_neg hz, if_neg hz, if_neg (by omega)]
def dirtyI (L : List Sec) : List Int := (dirtyL L).map (fun i : Nat => (i : Int))
theorem dirtyI_mem (L : List Sec) (z : Int) : z ∈ dirtyI L ↔ (caOf L z).isSome = true := by
 unfold dirtyI caOf
 rw [List.mem_map]
 constructor
 ·rintro ⟨i, hi, rfl⟩
  obtain ⟨h1, h2⟩ := (dirtyL_mem L i).1 hi
  rw [if_pos (by omega), Int.toNat_natCast]
  exact h2
 ·intro h
  split at h
  ·rename_i hz
   exact ⟨z.toNat, (dirtyL_mem L _).2 ⟨by omega, h⟩, by omega⟩
  ·simp at h
theorem dirtyI_sorted (L : List Sec) : (dirtyI L).Pairwise (· < ·) := by
 unfold dirtyI
 exact List.pairwise_map.2 ((dirtyFrom_sorted 0 L).imp (fun h => by omega))
theorem perm_keys {w : World} {b n : Nat} {D : DataW Value} {L : List Sec} (h : w.ownsMap Tryz.prog 3 RV b n D) (hc : Cached D L) : (dirtyI L).Perm (intKeys D) := by
 obtain ⟨es, hD, hpw, _⟩ := h.entries law_int
 obtain ⟨es', hD', hko⟩ := h.keysOf
 obtain rfl : es = es' := by rw [hD] at hD'; simpa using hD'
 subst hD
 refine perm_intKeys hpw (fun p hp => by obtain ⟨v, hv⟩ := hko p hp; obtain ⟨x, _, hx, _⟩ := Maps.keyOf_i64 Tryz.underlying3 hv; exact ⟨x, hx⟩) ?_ (fun x => ?_)
 ·exact (dirtyI_sorted L).imp (fun h => by omega)
 ·rw [dirtyI_mem]
  cases hx : caOf L x with
  | none => simp [hc.no x hx]
  | some c => simp [(hc.yes x c hx).1]
theorem size_keys {w : World} {b n : Nat} {D : DataW Value} {L : List Sec} (h : w.ownsMap Tryz.prog 3 RV b n D) (hc : Cached D L) : Maps.size D ≤ L.length := by
 have h1 := (perm_keys h hc).length_eq
 obtain ⟨es, rfl, _⟩ := h.entries law_int
 simp only [intKeys, List.length_map, dirtyI] at h1
 rw [Maps.size_eq, ← h1]
 exact dirtyFrom_le 0 L
theorem merge_dirty {D : DataW Value} {L : List Sec} {ss : List Int} (h1 : (dirtyI L).Perm (intKeys D)) (h2 : ss.Perm (intKeys D)) : ss.mergeSort (fun x y => decide (x ≤ y)) = dirtyI L := by
 rw [mergeSort_of_perm_i (h2.trans h1.symm)]
 exact List.mergeSort_of_pairwise ((dirtyI_sorted L).imp (fun h => by simp only [leI, decide_eq_true_eq]; omega))
theorem sortsA (m : Nat) : AnyZI.SortsIn Tryz.prog shSorted_ren Fence.wide m :=
 ⟨fun blk off cap ss W hH hblk hsz => callsIn_wide.2 (AnyM.slices_Sort_int shSort blk off cap ss W hH hblk hsz),
  fun p cap W => callsIn_wide.2 (AnyM.slices_Sort_int_none shSort p cap W)⟩
abbrev fKeys : FuncId := 98
abbrev fKeys1 : FuncId := 120
theorem cKeys (mb : Option Nat) (w : World) : Calls Tryz.prog 98 #[.map mb] w fun e w' =>
  e = .returned (.func (.func 120) #[] #[.pointer (some ⟨w.heap.size, 0, none⟩)]) ∧ w' = w.alloc (.cells #[.map mb] 57) :=
 (callsIn_wide (n := 5)).1 (AnyZI.keys_in shKeys Fence.wide 5 trivial rfl mb w)
theorem cSorted (w : World) (g b : Nat) (L : List Sec) (hL : L.length ≤ 1024) (hg : g < w.heap.size) (hm : w.cell? ⟨g, 0, none⟩ = some (.map (some b))) (h : MapIs w b L) :
  Calls Tryz.prog 97 #[.func (.func 120) #[] #[.pointer (some ⟨g, 0, none⟩)]] w fun e w' =>
   ∃ A c, e = .returned (.slice A (dirtyL L).length c) ∧ w'.ownsRow w.heap.size 3 1 (.slice A (dirtyL L).length c) (dirtyL L).length ((dirtyL L).map (kv .i64)) ∧ Below w.heap.size w w' := by
 obtain ⟨D, n, hown, hc⟩ := h
 have hsz := size_keys hown hc
 have hown := ownsMap_tight hown
 have hseq : SeqGives Fence.wide 2 Tryz.prog 120 #[.pointer (some ⟨g, 0, none⟩)] encZ (fun ss => ss.Perm (intKeys D)) (Maps.size D) w :=
  AnyZI.keys_gives (ρ := shKeys_ren) { shKeys with } Fence.wide _ trivial rfl (by omega) g b (Maps.size D) D w hg hm hown
 have cS := AnyZI.sorted_in shSorted Fence.wide 5 trivial trivial trivial trivial rfl (by omega) (sortsA _) (enters_of Tryz.func119 (by kernel_rfl) rfl) 120 #[.pointer (some ⟨g, 0, none⟩)] trivial (enters_of Tryz.func120 (by kernel_rfl) rfl) _ _ (by unfold maxLen; omega) (by omega) w hseq
 refine ((callsIn_wide (n := 5)).1 cS).mono ?_
 rintro e w' ⟨v, ss, rfl, hS, hrow, _, hb⟩
 have hms := merge_dirty (perm_keys hown hc) hS
 have hl : ss.length = (dirtyL L).length := by
  have := congrArg List.length hms
  simpa [dirtyI, List.length_mergeSort] using this
 rw [hms, hl] at hrow
 have e : (dirtyI L).map encZ = (dirtyL L).map (kv .i64) := by
  unfold dirtyI
  rw [List.map_map]
  rfl
 rw [e] at hrow
 obtain ⟨A, c, rfl⟩ := own_slice hrow
 exact ⟨A, c, rfl, hrow, hb⟩
theorem cSortedNil (w : World) (g : Nat) (hg : g < w.heap.size) (hm : w.cell? ⟨g, 0, none⟩ = some (.map none)) :
  Calls Tryz.prog 97 #[.func (.func 120) #[] #[.pointer (some ⟨g, 0, none⟩)]] w fun e w' => e = .returned (.slice none 0 0) ∧ Below w.heap.size w w' := by
 have hseq : SeqGives Fence.wide 2 Tryz.prog 120 #[.pointer (some ⟨g, 0, none⟩)] encZ (fun ss : List Int => ss = []) 0 w :=
  AnyZI.keys_gives_nil (ρ := shKeys_ren) { shKeys with } Fence.wide _ trivial rfl g w hg hm
 have cS := AnyZI.sorted_in shSorted Fence.wide 5 trivial trivial trivial trivial rfl (by omega) (sortsA _) (enters_of Tryz.func119 (by kernel_rfl) rfl) 120 #[.pointer (some ⟨g, 0, none⟩)] trivial (enters_of Tryz.func120 (by kernel_rfl) rfl) _ 0 (by unfold maxLen; omega) (by omega) w hseq
 refine ((callsIn_wide (n := 5)).1 cS).mono ?_
 rintro e w' ⟨v, ss, rfl, hS, hrow, hnil, hb⟩
 subst hS
 obtain rfl : v = .slice none 0 0 := hnil.2 rfl
 exact ⟨rfl, hb⟩
theorem Cached.put {w : World} {b n : Nat} {D : DataW Value} {L : List Sec} (h : w.ownsMap Tryz.prog 3 RV b n D) (hc : Cached D L) {i : Nat} (hi : i < L.length) (f bs : List UInt8) : Cached (D.put (keyL i) (.held (secV bs))) (L.set i (f, some bs)) := by
 have hD := h.isMap
 have hk : WideAt.IsKeyLit (keyL (i : Int)) := by simp [WideAt.IsKeyLit]
 refine ⟨fun z c hz => ?_, fun z hz => ?_⟩
 ·rw [caOf_set hi] at hz
  by_cases e : z = (i : Int)
  ·subst e
   rw [if_pos rfl] at hz
   injection hz with hz
   subst hz
   exact ⟨Maps.has_put_same hD hk _, fun zd => Maps.atKey_put_same hD hk _ _⟩
  ·rw [if_neg e] at hz
   obtain ⟨h1, h2⟩ := hc.yes z c hz
   have hne : keyL z ≠ keyL (i : Int) := fun h => e (by injection h)
   exact ⟨by rw [Maps.has_put_other hne]; exact h1, fun zd => by rw [Maps.atKey_put_other hne]; exact h2 zd⟩
 ·rw [caOf_set hi] at hz
  by_cases e : z = (i : Int)
  ·subst e
   rw [if_pos rfl] at hz
   cases hz
  ·rw [if_neg e] at hz
   have hne : keyL z ≠ keyL (i : Int) := fun h => e (by injection h)
   rw [Maps.has_put_other hne]
   exact hc.no z hz
theorem Cached.none {L : List Sec} (h : ∀ x ∈ L, x.2 = none) : Cached (.map []) L := ⟨fun z c hz => (by rw [caOf_none h] at hz; cases hz), fun z _ => rfl⟩
theorem MapIs.made (w : World) {L : List Sec} (h : ∀ x ∈ L, x.2 = none) : MapIs (w.alloc (.map #[] 0)) w.heap.size L := ⟨_, _, World.ownsMap_made w Tryz.prog 3 RV, Cached.none h⟩
theorem wf_nat {i : Nat} (h : i ≤ 9223372036854775807) : (Lit.int .i64 (i : Int)).wf = true := by
 have h1 : IntKind.i64.min = -9223372036854775808 := rfl
 have h2 : IntKind.i64.max = 9223372036854775807 := rfl
 simp only [Lit.wf, Bool.and_eq_true, decide_eq_true_eq, h1, h2]
 omega
theorem MapIs.store {w : World} {b : Nat} {L : List Sec} (h : MapIs w b L) (hL : L.length ≤ 1024) {i : Nat} (hi : i < L.length) (f bs : List UInt8) :
  ∃ w', (Instr.mapUpdate 57 (.map (some b)) (.int .i64 (i : Int)) (secV bs)).run Tryz.prog w = .ok () w' ∧ MapIs w' b (L.set i (f, some bs)) ∧ w.grownBy w' (some b) ∧ w.mapTurned w' b := by
 obtain ⟨D, n, hown, hc⟩ := h
 have hsz := size_keys hown hc
 have hown := ownsMap_tight hown
 obtain ⟨w', hrun, h1, h2⟩ := hown.store law_int Tryz.underlying57 (by unfold maxLen; omega) (keyOf_int_mk Tryz.underlying3 (wf_nat (i := i) (by omega))) (val := secV bs) (ps := []) rfl
 exact ⟨w', hrun, ⟨_, _, h1, hc.put hown hi f bs⟩, h2.grown, h2⟩
theorem MapIs.clear {w : World} {b : Nat} {L : List Sec} (h : MapIs w b L) {L' : List Sec} (h' : ∀ x ∈ L', x.2 = none) (ty : TypeId) :
  ∃ w', (Builtin.clear_ #[57] ty #[.map (some b)]).run Tryz.prog w = .ok (.tuple #[]) w' ∧ MapIs w' b L' ∧ w.mapTurned w' b := by
 obtain ⟨D, n, ⟨es, clock, hb, F, hs, hD⟩, hc⟩ := h
 refine ⟨setBlock w b (.map #[] clock), ?_, ⟨.map [], 0, ⟨#[], clock, heap_setBlock_same hb _, ⟨by simp, MapKept.stamped_empty clock, by simp⟩, Nat.le_refl _, rfl⟩, Cached.none h'⟩, ⟨es, clock, #[], clock, hb, rfl⟩⟩
 simp [Builtin.clear_, run_underlying Tryz.underlying57, MapKept.run_getObj_map hb, MapKept.run_setObj_map _ hb, setBlock]
theorem MapIs.look {w : World} {b : Nat} {L : List Sec} (h : MapIs w b L) (hL : L.length ≤ 1024) {i : Nat} (hi : i < L.length) {z : Value} (hz : (zeroValue 86).run Tryz.prog w = .ok z w) :
  (Instr.lookup 57 (.map (some b)) (.int .i64 (i : Int)) true).run Tryz.prog w = .ok (.tuple #[((secAt L i).2.map secV).getD z, .bool (secAt L i).2.isSome]) w ∧
  (Instr.lookup 57 (.map (some b)) (.int .i64 (i : Int)) false).run Tryz.prog w = .ok (((secAt L i).2.map secV).getD z) w := by
 obtain ⟨D, n, hown, hc⟩ := h
 have hkey := keyOf_int_mk (P := Tryz.prog) Tryz.underlying3 (wf_nat (i := i) (by omega))
 obtain ⟨v, ps, h1, h2⟩ := hown.look_ok law_int Tryz.underlying57 hz (zd := .held z) (zp := []) rfl hkey
 obtain ⟨v', ps', h3, h4⟩ := hown.lookup law_int Tryz.underlying57 hz (zd := .held z) (zp := []) rfl hkey
 rw [h1, h3]
 have hca := caOf_nat hi
 cases hs : (secAt L i).2 with
 | none =>
  rw [hs] at hca
  have hn := hc.no _ hca
  rw [Maps.atKey_of_not_has hn] at h2 h4
  injection h2 with h2; injection h2 with h2; injection h2 with h2
  injection h4 with h4; injection h4 with h4; injection h4 with h4
  simp [h2, h4, hn]
 | some c =>
  rw [hs] at hca
  obtain ⟨hy, hat⟩ := hc.yes _ _ hca
  rw [hat] at h2 h4
  injection h2 with h2; injection h2 with h2; injection h2 with h2
  injection h4 with h4; injection h4 with h4; injection h4 with h4
  simp [h2, h4, hy]
end
section
open Go.RowKit
theorem dkArr0 (n : Nat) : arrB (List.replicate n 0) = Array.replicate n (Value.int .u8 0) := by
 unfold arrB
 rw [List.map_replicate]
 exact List.toArray_replicate ..
theorem sec_info : (Tryz.prog.info? 86).map (fun i => (i.zero, i.size)) = some (some (.agg (Array.replicate 64 (.int .u8 0))), 64) := by kernel_rfl
theorem sec_zero (w : World) : (zeroValue 86).run Tryz.prog w = .ok (secV sec0) w := by
 rw [secV, sec0, dkArr0]; exact (zero_of_info sec_info).1 w
theorem sec_size {bs : List UInt8} (h : bs.length = 64) : (Tryz.prog.info? 86).map (·.size) = some (arrB bs).size := by
 rw [arrB_size, h]; exact (zero_of_info sec_info).2
theorem sec_len {bs : List UInt8} (h : bs.length = 64) : (Tryz.prog.info? 86).map (·.size) = some (bs.map bval).length := by
 rw [List.length_map, h]; exact (zero_of_info sec_info).2
theorem bit_info : (Tryz.prog.info? 113).map (fun i => (i.zero, i.size)) = some (some (.agg (Array.replicate 128 (.int .u8 0))), 128) := by kernel_rfl
def bits0 : List UInt8 := List.replicate 128 0
theorem bit_zero (w : World) : (zeroValue 113).run Tryz.prog w = .ok (.agg (arrB bits0)) w := by
 rw [bits0, dkArr0]; exact (zero_of_info bit_info).1 w
theorem secs_nil (w : World) (a : Option Addr) (n c : Nat) : (binOp .eql 56 (.slice a n c) (.slice none 0 0)).run Tryz.prog w = .ok (.bool a.isNone) w := Lib.run_eql_slice_nil w _ _ a n c 0 0 Tryz.underlying56
theorem u8_nil (w : World) (a : Option Addr) (n c : Nat) : (binOp .eql 35 (.slice a n c) (.slice none 0 0)).run Tryz.prog w = .ok (.bool a.isNone) w := Lib.run_eql_slice_nil w _ _ a n c 0 0 Tryz.underlying35
theorem u8_some (w : World) (a : Option Addr) (n c : Nat) : (binOp .neq 35 (.slice a n c) (.slice none 0 0)).run Tryz.prog w = .ok (.bool (!a.isNone)) w := run_neq_slice_nil_any w _ _ a n c 0 0 Tryz.underlying35
structure SecsAt (w : World) (fb : Nat) (fs : List (List UInt8)) : Prop where
 at_ : ∀ i, i < fs.length → w.rangeAt fb (i * 64) ((fs.getD i []).map bval)
 there : w.there fb 0 (fs.length * 64)
 len : ∀ x ∈ fs, x.length = 64
theorem SecsAt.block {w w' : World} {fb : Nat} {fs : List (List UInt8)} (h : SecsAt w fb fs) (hb : w'.heap[fb]? = w.heap[fb]?) : SecsAt w' fb fs :=
 ⟨fun i hi j v hv => (World.cell?_of_block hb).trans (h.at_ i hi j v hv), fun j hj => ⟨by rw [World.cell?_of_block hb]; exact (h.there j hj).1, by rw [World.frozen?_of_block hb]; exact (h.there j hj).2⟩, h.len⟩
theorem SecsAt.getLen {w : World} {fb : Nat} {fs : List (List UInt8)} (h : SecsAt w fb fs) {i : Nat} (hi : i < fs.length) : (fs.getD i []).length = 64 := by
 have e : fs.getD i [] = fs[i] := by simp [List.getD, hi]
 rw [e]; exact h.len _ (List.getElem_mem hi)
theorem SecsAt.thereAt {w : World} {fb : Nat} {fs : List (List UInt8)} (h : SecsAt w fb fs) {i : Nat} (hi : i < fs.length) : w.there fb (i * 64) 64 := fun j hj => by
 have := h.there (i * 64 + j) (by omega)
 rwa [Nat.zero_add] at this
theorem rd_range {w : World} {B b o n : Nat} {bs : List UInt8} (hn : bs.length = n) (hb : b < B) (h : w.rangeAt b o (bs.map bval)) : Rd w B (some ⟨b, o, none⟩) n bs :=
 ⟨hn, fun _ => ⟨b, o, rfl, hb, fun j hj => h j _ (by rw [List.getElem?_map, List.getElem?_eq_getElem (by omega), nth_of_lt (by omega)]; rfl)⟩⟩
theorem SecsAt.set {w : World} {fb : Nat} {fs : List (List UInt8)} (h : SecsAt w fb fs) {i : Nat} (hi : i < fs.length) {bs : List UInt8} (hb : bs.length = 64) : SecsAt (w.setCells fb (i * 64) (bs.map bval)) fb (fs.set i bs) := by
 have ht : w.there fb (i * 64) (bs.map bval).length := by rw [List.length_map, hb]; exact h.thereAt hi
 refine ⟨fun j hj => ?_, ?_, fun x hx => ?_⟩
 ·rw [List.length_set] at hj
  by_cases e : i = j
  ·subst e
   have e1 : (fs.set i bs).getD i [] = bs := by simp [List.getD, hi]
   rw [e1]
   exact w.rangeAt_setCells_same fb (i * 64) _ ht
  ·have e1 : (fs.set i bs).getD j [] = fs.getD j [] := by simp [List.getD, e]
   rw [e1]
   refine World.rangeAt_setCells_apart (h.at_ j hj) _ _ _ (.inr ?_)
   rw [List.length_map, List.length_map, hb, h.getLen hj]
   omega
 ·rw [List.length_set]
  exact World.there_setCells h.there _ _ _
 ·rcases List.mem_or_eq_of_mem_set hx with hx | rfl
  ·exact h.len x hx
  ·exact hb
def StAt (w : World) (v : Value) (cb : Nat) (stay : List UInt8) : Prop :=
 v = .func (.func 77) #[] #[.pointer (some ⟨cb, 0, none⟩)] ∧ ∀ j, j < 128 → w.cell? ⟨cb, j, none⟩ = some (.int .u8 (nth stay j : Int))
theorem StAt.block {w w' : World} {v : Value} {cb : Nat} {stay : List UInt8} (h : StAt w v cb stay) (hb : w'.heap[cb]? = w.heap[cb]?) : StAt w' v cb stay := ⟨h.1, fun j hj => (World.cell?_of_block hb).trans (h.2 j hj)⟩
def dkCells (fb mb n : Nat) (up : Bool) (left : Nat) (stv : Value) : Array Value := #[.slice (some ⟨fb, 0, none⟩) n n, .map (some mb), .bool up, .int .i64 (left : Int), stv]
structure DkP (w : World) (d fb mb : Nat) (stv : Value) (F : Nat → Prop) (s : DS) : Prop where
 obj : w.heap[d]? = some (.cells (dkCells fb mb s.L.length s.up s.left stv) 62 (0, 0))
 secs : SecsAt w fb (s.L.map (·.1))
 map : MapIs w mb s.L
 st : s.left ≠ 0 → ∃ cb, StAt w stv cb s.stay ∧ F cb ∧ cb ≠ d ∧ cb ≠ fb ∧ cb ≠ mb
 one : stv.oneCell' = true
 fd : F d
 ff : F fb
 fm : F mb
 df : d ≠ fb
 dm : d ≠ mb
 fmne : fb ≠ mb
 lt : ∀ k, F k → k < w.heap.size
 ok : s.ok
def DkAt (w : World) (d : Nat) (F : Nat → Prop) (s : DS) : Prop := ∃ fb mb stv, DkP w d fb mb stv F s
theorem DkP.kept {R : Nat → Prop} {w w' : World} {d fb mb : Nat} {stv : Value} {F : Nat → Prop} {s : DS} (h : DkP w d fb mb stv F s) (hk : Keep R w w') (hn : ∀ k, F k → ¬ R k) : DkP w' d fb mb stv F s := by
 have hb : ∀ k, F k → w'.heap[k]? = w.heap[k]? := fun k hf => hk.block k (h.lt k hf) (hn k hf)
 exact ⟨(hb d h.fd).trans h.obj, h.secs.block (hb fb h.ff), h.map.block (hb mb h.fm), fun hl => by
  obtain ⟨cb, h1, h2, h3⟩ := h.st hl
  exact ⟨cb, h1.block (hb cb h2), h2, h3⟩, h.one, h.fd, h.ff, h.fm, h.df, h.dm, h.fmne, fun k hf => Nat.lt_of_lt_of_le (h.lt k hf) hk.size, h.ok⟩
theorem DkAt.kept {R : Nat → Prop} {w w' : World} {d : Nat} {F : Nat → Prop} {s : DS} (h : DkAt w d F s) (hk : Keep R w w') (hn : ∀ k, F k → ¬ R k) : DkAt w' d F s := by
 obtain ⟨fb, mb, stv, h⟩ := h
 exact ⟨fb, mb, stv, h.kept hk hn⟩
theorem DkP.to {w w' : World} {d fb mb : Nat} {stv : Value} {F : Nat → Prop} {s : DS} (h : DkP w d fb mb stv F s) (hb : Below w.heap.size w w') : DkP w' d fb mb stv F s := h.kept (R := fun _ => False) (Keep.of_below hb) (fun _ _ h => h)
theorem DkAt.to {w w' : World} {d : Nat} {F : Nat → Prop} {s : DS} (h : DkAt w d F s) (hb : Below w.heap.size w w') : DkAt w' d F s := h.kept (R := fun _ => False) (Keep.of_below hb) (fun _ _ h => h)
theorem DkAt.lt {w : World} {d : Nat} {F : Nat → Prop} {s : DS} (h : DkAt w d F s) : ∀ k, F k → k < w.heap.size := by
 obtain ⟨fb, mb, stv, h⟩ := h
 exact h.lt
theorem DkAt.fd {w : World} {d : Nat} {F : Nat → Prop} {s : DS} (h : DkAt w d F s) : F d := by
 obtain ⟨fb, mb, stv, h⟩ := h
 exact h.fd
theorem DkAt.ok {w : World} {d : Nat} {F : Nat → Prop} {s : DS} (h : DkAt w d F s) : s.ok := by
 obtain ⟨fb, mb, stv, h⟩ := h
 exact h.ok
theorem DkP.more {w : World} {d fb mb : Nat} {stv : Value} {F G : Nat → Prop} {s : DS} (h : DkP w d fb mb stv F s) (hg : ∀ k, F k → G k) (hl : ∀ k, G k → k < w.heap.size) : DkP w d fb mb stv G s :=
 ⟨h.obj, h.secs, h.map, fun hn => by obtain ⟨cb, h1, h2, h3⟩ := h.st hn; exact ⟨cb, h1, hg _ h2, h3⟩, h.one, hg _ h.fd, hg _ h.ff, hg _ h.fm, h.df, h.dm, h.fmne, hl, h.ok⟩
theorem DkAt.more {w : World} {d : Nat} {F G : Nat → Prop} {s : DS} (h : DkAt w d F s) (hg : ∀ k, F k → G k) (hl : ∀ k, G k → k < w.heap.size) : DkAt w d G s := by
 obtain ⟨fb, mb, stv, h⟩ := h
 exact ⟨fb, mb, stv, h.obj, h.secs, h.map, fun hn => by obtain ⟨cb, h1, h2, h3⟩ := h.st hn; exact ⟨cb, h1, hg _ h2, h3⟩, h.one, hg _ h.fd, hg _ h.ff, hg _ h.fm, h.df, h.dm, h.fmne, hl, h.ok⟩
theorem dkCell {w : World} {d fb mb n left : Nat} {up : Bool} {stv : Value} {T : TypeId} (h : w.heap[d]? = some (.cells (dkCells fb mb n up left stv) T (0, 0))) :
  w.cell? ⟨d, 0, none⟩ = some (.slice (some ⟨fb, 0, none⟩) n n) ∧ w.cell? ⟨d, 1, none⟩ = some (.map (some mb)) ∧ w.cell? ⟨d, 2, none⟩ = some (.bool up) ∧ w.cell? ⟨d, 3, none⟩ = some (.int .i64 (left : Int)) ∧ w.cell? ⟨d, 4, none⟩ = some stv ∧
  w.frozen? ⟨d, 2, none⟩ = false ∧ w.frozen? ⟨d, 3, none⟩ = false ∧ w.frozen? ⟨d, 4, none⟩ = false := by
 refine ⟨?_, ?_, ?_, ?_, ?_, ?_, ?_, ?_⟩ <;> simp [World.cell?, World.frozen?, h, dkCells]
inductive DkNo : World → Value → Prop
 | none (w : World) : DkNo w (.pointer none)
 | fresh (w : World) (d : Nat) (h : w.heap[d]? = some (.cells #[.slice none 0 0, .map none, .bool false, .int .i64 0, Value.nilFunc] 62 (0, 0))) : DkNo w (.pointer (some ⟨d, 0, none⟩))
theorem DkNo.to {w w' : World} {p : Value} (h : DkNo w p) (hb : Below w.heap.size w w') : DkNo w' p := by
 cases h with
 | none => exact .none _
 | fresh d h => exact .fresh _ d ((hb.block d (heap_at_lt h)).trans h)
theorem dState (d : Nat) (F : Nat → Prop) (s : DS) (w : World) (h : DkAt w d F s) : Calls Tryz.prog 37 #[.pointer (some ⟨d, 0, none⟩)] w fun e w' => e = .returned (.int .i64 (if s.up then 0 else 60)) ∧ w = w' := by
 obtain ⟨fb, mb, stv, h⟩ := h
 obtain ⟨c0, c1, c2, c3, c4, z2, z3, z4⟩ := dkCell h.obj
 clear h
 have q := secs_nil
 go_enter Tryz.func37, Tryz.ntmps37
 cases hu : s.up <;> rw [hu] at c2 <;> clear hu
 ·go_wp2_with fail
  go_ret
  exact ⟨rfl, rfl⟩
 ·go_wp2_with fail
  go_ret
  exact ⟨rfl, rfl⟩
theorem dStateNo (p : Value) (w : World) (h : DkNo w p) : Calls Tryz.prog 37 #[p] w fun e w' => e = .returned (.int .i64 1) ∧ w = w' := by
 cases h with
 | none =>
  go_enter Tryz.func37, Tryz.ntmps37
  go_wp2_with fail
  go_ret
  exact ⟨rfl, rfl⟩
 | fresh d h =>
  have c0 : w.cell? ⟨d, 0, none⟩ = some (.slice none 0 0) := by simp [World.cell?, h]
  clear h
  have q := secs_nil
  go_enter Tryz.func37, Tryz.ntmps37
  go_wp2_with fail
  go_ret
  exact ⟨rfl, rfl⟩
theorem dLen (d : Nat) (F : Nat → Prop) (s : DS) (w : World) (h : DkAt w d F s) : Calls Tryz.prog 44 #[.pointer (some ⟨d, 0, none⟩)] w fun e w' => e = .returned (.int .i64 (s.L.length : Int)) ∧ w = w' := by
 obtain ⟨fb, mb, stv, h⟩ := h
 obtain ⟨c0, c1, c2, c3, c4, z2, z3, z4⟩ := dkCell h.obj
 clear h
 generalize s.L.length = n at *
 go_enter Tryz.func44, Tryz.ntmps44
 go_wp2_with fail
 go_ret
 exact ⟨rfl, rfl⟩
theorem dLenNo (p : Value) (w : World) (h : DkNo w p) : Calls Tryz.prog 44 #[p] w fun e w' => e = .returned (.int .i64 0) ∧ w = w' := by
 cases h with
 | none =>
  go_enter Tryz.func44, Tryz.ntmps44
  go_wp2_with fail
  go_ret
  exact ⟨rfl, rfl⟩
 | fresh d h =>
  have c0 : w.cell? ⟨d, 0, none⟩ = some (.slice none 0 0) := by simp [World.cell?, h]
  clear h
  go_enter Tryz.func44, Tryz.ntmps44
  go_wp2_with fail
  go_ret
  exact ⟨rfl, rfl⟩
def hasN (n : Nat) (i : Int) : Bool := decide (0 ≤ i ∧ i < n)
theorem dHasP (p : Value) (n : Nat) (i : Int) (w : World) (h : Calls Tryz.prog 44 #[p] w fun e w' => e = .returned (.int .i64 (n : Int)) ∧ w = w') :
  Calls Tryz.prog 40 #[p, .int .i64 i] w fun e w' => e = .returned (.bool (hasN n i)) ∧ w = w' := by
 have H := qH h
 clear h
 go_enter Tryz.func40, Tryz.ntmps40
 by_cases h0 : i ≥ 0
 ·go_wp2_with fail
  refine (H.out).mono ?_
  rintro e w1 ⟨rfl, rfl⟩
  by_cases h1 : i < (n : Int)
  ·have HR : Hid (hasN n i = true) := by show _ = _; simp only [hasN, decide_eq_true_eq]; omega
   go_wp2_with fail
   go_ret
   rw [HR.out]
   exact ⟨rfl, rfl⟩
  ·have HR : Hid (hasN n i = false) := by show _ = _; simp only [hasN, decide_eq_false_iff_not]; omega
   have HN : Hid (¬ i < (n : Int)) := h1
   go_wp2_with fail
   go_ret
   rw [HR.out]
   refine ⟨?_, rfl⟩
   show Ending.returned (.bool (decide (i < (n : Int)))) = _
   rw [decide_eq_false (by have := HN.out; omega)]
 ·have HR : Hid (hasN n i = false) := by show _ = _; simp only [hasN, decide_eq_false_iff_not]; omega
  go_wp2_with fail
  go_ret
  rw [HR.out]
  exact ⟨rfl, rfl⟩
theorem dHas (d : Nat) (F : Nat → Prop) (s : DS) (i : Int) (w : World) (h : DkAt w d F s) : Calls Tryz.prog 40 #[.pointer (some ⟨d, 0, none⟩), .int .i64 i] w fun e w' => e = .returned (.bool (s.has i)) ∧ w = w' :=
 dHasP _ _ i w (dLen d F s w h)
theorem dHasNo (p : Value) (i : Int) (w : World) (h : DkNo w p) : Calls Tryz.prog 40 #[p, .int .i64 i] w fun e w' => e = .returned (.bool false) ∧ w = w' := by
 have h1 := dHasP p 0 i w (dLenNo p w h)
 have e : hasN 0 i = false := by simp only [hasN, decide_eq_false_iff_not]; omega
 rwa [e] at h1
theorem dUp (d : Nat) (F : Nat → Prop) (s : DS) (w : World) (h : DkAt w d F s) : Calls Tryz.prog 15 #[.pointer (some ⟨d, 0, none⟩)] w fun e w' => e = .returned (.bool s.up) ∧ w = w' := by
 have H := qH (dState d F s w h)
 clear h
 go_enter Tryz.func15, Tryz.ntmps15
 go_wp2_with fail
 refine (H.out).mono ?_
 rintro e w1 ⟨rfl, rfl⟩
 cases hu : s.up
 ·have HU := qH hu
  clear hu
  go_wp2_with fail
  go_ret
  rw [HU.out]
  exact ⟨rfl, rfl⟩
 ·have HU := qH hu
  clear hu
  go_wp2_with fail
  go_ret
  rw [HU.out]
  exact ⟨rfl, rfl⟩
theorem dUpNo (p : Value) (w : World) (h : DkNo w p) : Calls Tryz.prog 15 #[p] w fun e w' => e = .returned (.bool false) ∧ w = w' := by
 have H := qH (dStateNo p w h)
 clear h
 go_enter Tryz.func15, Tryz.ntmps15
 go_wp2_with fail
 refine (H.out).mono ?_
 rintro e w1 ⟨rfl, rfl⟩
 go_wp2_with fail
 go_ret
 exact ⟨rfl, rfl⟩
end
section
open Go.RowKit
theorem dClone (a : Addr) (n c : Nat) (bs : List UInt8) (w : World) (h : Rd w w.heap.size (some a) n bs) (hn : n ≤ 140737488355328) :
  Calls Tryz.prog 41 #[.slice (some a) n c] w fun e w' => RetB 5 w bs e w' := by
 have R := qH h
 clear h
 have q := u8_nil
 have HO : Hid ((w.alloc (.cells #[] 5)).ownsRow w.heap.size 5 1 (.slice (some ⟨w.heap.size, 0, none⟩) 0 0) 0 (([] : List UInt8).map bval)) := own_top (w := w) (B := w.heap.size) [] 5 (Nat.le_refl _) (by simp) (by decide)
 go_enter Tryz.func41, Tryz.ntmps41
 go_wp2_with (at_builtin; refine wpList_pushAll isU8 rfl (.tmp 5) (.tmp 6) rfl (B := w.heap.size) (w := w) (bs := []) (k := 0) rfl rfl HO.out (R.out.grow _) ((Below.refl _ _).alloc (Nat.le_refl _) _) (by simp) (by omega) ?_; intro v1 w1 hown1 hb1 hs1)
 rw [List.nil_append, Nat.zero_add] at hown1
 have O1 := qH hown1
 have B1 := qH hb1
 clear hown1 hb1 hs1
 go_wp2_with fail
 go_ret
 exact RetB.mk O1.out B1.out
theorem rd_arr (w : World) (bs : List UInt8) {n : Nat} (hn : bs.length = n) (T : TypeId) : Rd (w.alloc (.cells (arrB bs) T)) (w.alloc (.cells (arrB bs) T)).heap.size (some ⟨w.heap.size, 0, none⟩) n bs := by
 have h := Rd.lit (w := w) bs (bs.map bval) T rfl
 rw [List.length_map, hn] at h
 exact h.more (by simp)
theorem dFlushed (d : Nat) (F : Nat → Prop) (s : DS) (i : Int) (w : World) (h : DkAt w d F s) : Calls Tryz.prog 21 #[.pointer (some ⟨d, 0, none⟩), .int .i64 i] w fun e w' => RetB 5 w (s.flushed i) e w' := by
 have H := qH (dHas d F s i w h)
 obtain ⟨fb, mb, stv, h⟩ := h
 obtain ⟨c0, c1, c2, c3, c4, z2, z3, z4⟩ := dkCell h.obj
 have HS := qH h.secs
 have HF := qH (h.lt _ h.ff)
 clear h
 go_enter Tryz.func21, Tryz.ntmps21
 go_wp2_with fail
 refine (H.out).mono ?_
 rintro e w1 ⟨rfl, rfl⟩
 cases hh : s.has i
 ·have HH := qH hh
  clear hh
  go_wp2_with fail
  go_ret
  rw [DS.flushed, HH.out, if_pos rfl]
  exact RetB.mk (v := .slice none 0 0) (n := 0) ⟨rfl, .inl ⟨rfl, rfl⟩⟩ (Below.refl _ _)
 ·have HH := qH hh
  have hz : 0 ≤ i ∧ i < (s.L.length : Int) := by simpa [DS.has] using hh
  clear hh
  obtain ⟨k, rfl⟩ : ∃ k : Nat, i = (k : Int) := ⟨i.toNat, by omega⟩
  have hk : k < s.L.length := by omega
  have hk1 : (k : Int) < (s.L.length : Int) := by omega
  have e1 : (s.L.map (·.1)).getD k [] = (secAt s.L k).1 := by simp [List.getD, secAt, hk]
  have HR : Hid (Rd w w.heap.size (some ⟨fb, k * 64, none⟩) 64 (secAt s.L k).1) := by
   have h1 := HS.out.at_ k (by simpa using hk)
   have h2 := HS.out.getLen (i := k) (by simpa using hk)
   rw [e1] at h1 h2
   exact rd_range h2 HF.out h1
  have HK := qH hk
  clear hz e1 hk
  generalize hn : s.L.length = n at *
  have HN := qH hn
  clear hn
  go_wp2_with fail
  refine (dClone ⟨fb, k * 64, none⟩ 64 64 _ w HR.out (by decide)).mono ?_
  rintro e w1 ⟨A, m, c, rfl, hown, hb⟩
  have O1 := qH hown
  have B1 := qH hb
  clear hown hb
  go_wp2_with fail
  go_ret
  rw [DS.flushed, HH.out, if_neg (by decide), Int.toNat_natCast]
  exact RetB.mk O1.out B1.out
theorem dFlushedNo (p : Value) (i : Int) (w : World) (h : DkNo w p) : Calls Tryz.prog 21 #[p, .int .i64 i] w fun e w' => e = .returned (.slice none 0 0) ∧ w = w' := by
 have H := qH (dHasNo p i w h)
 clear h
 go_enter Tryz.func21, Tryz.ntmps21
 go_wp2_with fail
 refine (H.out).mono ?_
 rintro e w1 ⟨rfl, rfl⟩
 go_wp2_with fail
 go_ret
 exact ⟨rfl, rfl⟩
theorem dRead (d : Nat) (F : Nat → Prop) (s : DS) (i : Int) (w : World) (h : DkAt w d F s) : Calls Tryz.prog 18 #[.pointer (some ⟨d, 0, none⟩), .int .i64 i] w fun e w' =>
  ∃ A n c, e = .returned (.tuple #[.slice A n c, .int .i64 (s.read i).2]) ∧ w'.ownsRow w.heap.size 5 1 (.slice A n c) n ((s.read i).1.map bval) ∧ Below w.heap.size w w' := by
 have HST := qH (dState d F s w h)
 have H := qH (dHas d F s i w h)
 obtain ⟨fb, mb, stv, h⟩ := h
 obtain ⟨c0, c1, c2, c3, c4, z2, z3, z4⟩ := dkCell h.obj
 have HS := qH h.secs
 have HM := qH h.map
 have HOK := qH h.ok
 have HF := qH (h.lt _ h.ff)
 have hdl := heap_at_lt h.obj
 clear h
 go_enter Tryz.func18, Tryz.ntmps18
 go_wp2_with fail
 refine (HST.out).mono ?_
 rintro e w1 ⟨rfl, rfl⟩
 cases hu : s.up
 ·have HU := qH hu
  clear hu
  go_wp2_with fail
  go_ret2
  rw [DS.read, HU.out, if_pos rfl]
  exact ⟨none, 0, 0, rfl, ⟨rfl, .inl ⟨rfl, rfl⟩⟩, Below.refl _ _⟩
 have HU := qH hu
 clear hu
 go_wp2_with fail
 refine (H.out).mono ?_
 rintro e w1 ⟨rfl, rfl⟩
 cases hh : s.has i
 ·have HH := qH hh
  clear hh
  go_wp2_with fail
  go_ret2
  rw [DS.read, HU.out, if_neg (by decide), HH.out, if_pos rfl]
  exact ⟨none, 0, 0, rfl, ⟨rfl, .inl ⟨rfl, rfl⟩⟩, Below.refl _ _⟩
 have HH := qH hh
 have hz : 0 ≤ i ∧ i < (s.L.length : Int) := by simpa [DS.has] using hh
 clear hh
 obtain ⟨k, rfl⟩ : ∃ k : Nat, i = (k : Int) := ⟨i.toNat, by omega⟩
 have hk : k < s.L.length := by omega
 have hk1 : (k : Int) < (s.L.length : Int) := by omega
 have hlook := (HM.out.look HOK.out.len hk (sec_zero w)).1
 have HL0 := qH (HOK.out.secF hk)
 have HE : Hid ((s.read (k : Int)) = (Sec.now (secAt s.L k), 0)) := by
  show _ = _
  rw [DS.read, HU.out, if_neg (by decide), HH.out, if_neg (by decide), Int.toNat_natCast]
 have hz0 := sec_zero
 have HZL : Hid (sec0.length = 64) := rfl
 cases hc : (secAt s.L k).2 with
 | some c =>
  have HC := qH hc
  have HCL := qH (HOK.out.secC hk hc)
  have S1 := qH (sec_size HCL.out)
  have E1 : Hid ((arrB sec0).size = (arrB c).size) := by show _ = _; rw [arrB_size, arrB_size, HCL.out, HZL.out]
  rw [hc] at hlook
  simp only [Option.map_some, Option.getD_some, Option.isSome_some, secV] at hlook
  clear hc hk
  generalize hn : s.L.length = n at *
  have HN := qH hn
  clear hn
  simp only [secV] at hz0
  go_wp2_with (refine wpList_store_row rfl 86 _ _ rfl w.heap.size (arrB c) rfl rfl 86 (arrB sec0) (heap_alloc_last w _) S1.out E1.out (arrB_one _) ?_; rw [World.setRow_alloc_new])
  have RC : Hid (Rd (w.alloc (.cells (arrB c) 86)) (w.alloc (.cells (arrB c) 86)).heap.size (some ⟨w.heap.size, 0, none⟩) 64 c) := rd_arr w c HCL.out _
  have BC : Hid (Below w.heap.size w (w.alloc (.cells (arrB c) 86))) := (Below.refl _ _).alloc (Nat.le_refl _) _
  generalize w.alloc (.cells (arrB c) 86) = w1 at *
  refine (dClone ⟨w.heap.size, 0, none⟩ 64 64 c w1 RC.out (by decide)).mono ?_
  rintro e w2 hR
  obtain ⟨A, m, cc, rfl, hown, hb⟩ := RetB.from BC.out hR
  have O1 := qH hown
  have B1 := qH hb
  clear hown hb hR
  go_wp2_with fail
  go_ret2
  rw [HE.out]
  have e : Sec.now (secAt s.L k) = c := by unfold Sec.now; rw [HC.out]; rfl
  rw [e]
  exact ⟨A, m, cc, rfl, O1.out, B1.out⟩
 | none =>
  have HC := qH hc
  have S0 := qH (sec_size HZL.out)
  have S1 := qH (sec_size HL0.out)
  have SL := qH (sec_len HL0.out)
  have E1 : Hid ((arrB sec0).size = (arrB (secAt s.L k).1).size) := by show _ = _; rw [arrB_size, arrB_size, HL0.out, HZL.out]
  have HR : Hid (w.rangeAt fb (k * 64) ((secAt s.L k).1.map bval)) := by
   have h1 := HS.out.at_ k (by simpa using hk)
   have e1 : (s.L.map (·.1)).getD k [] = (secAt s.L k).1 := by simp [List.getD, secAt, hk]
   rw [e1] at h1
   exact h1
  have HR2 : Hid ((w.alloc (.cells (arrB sec0) 86)).rangeAt fb (k * 64) ((secAt s.L k).1.map bval)) := World.rangeAt_alloc HR.out _
  rw [hc] at hlook
  simp only [Option.map_none, Option.getD_none, Option.isSome_none, secV] at hlook
  clear hc hk
  generalize hn : s.L.length = n at *
  have HN := qH hn
  clear hn
  simp only [secV] at hz0
  obtain ⟨f, hf⟩ : ∃ f, (secAt s.L k).1 = f := ⟨_, rfl⟩
  rw [hf] at HL0 S1 SL E1 HR HR2
  have HFE := qH hf
  clear hf
  have T1 : True := trivial
  go_wp2_with (first
   | (have _t := T1; refine wpList_store_row rfl 86 _ _ rfl w.heap.size (arrB sec0) rfl rfl 86 (arrB sec0) (heap_alloc_last w _) S0.out rfl (arrB_one _) ?_; rw [World.setRow_alloc_new]; clear T1)
   | (refine wpList_load_mid rfl 86 _ rfl fb (k * 64) rfl (f.map bval) _ HR2.out Tryz.underlying86 rfl SL.out ?_)
   | (refine wpList_store_row rfl 86 _ _ rfl w.heap.size (arrB f) rfl rfl 86 (arrB sec0) (heap_alloc_last w _) S1.out E1.out (arrB_one _) ?_; rw [World.setRow_alloc_new]))
  have RC : Hid (Rd (w.alloc (.cells (arrB f) 86)) (w.alloc (.cells (arrB f) 86)).heap.size (some ⟨w.heap.size, 0, none⟩) 64 f) := rd_arr w f HL0.out _
  have BC : Hid (Below w.heap.size w (w.alloc (.cells (arrB f) 86))) := (Below.refl _ _).alloc (Nat.le_refl _) _
  generalize w.alloc (.cells (arrB f) 86) = w1 at *
  refine (dClone ⟨w.heap.size, 0, none⟩ 64 64 f w1 RC.out (by decide)).mono ?_
  rintro e w2 hR
  obtain ⟨A, m, cc, rfl, hown, hb⟩ := RetB.from BC.out hR
  have O1 := qH hown
  have B1 := qH hb
  clear hown hb hR
  go_wp2_with fail
  go_ret2
  rw [HE.out]
  have e : Sec.now (secAt s.L k) = f := by unfold Sec.now; rw [HC.out, HFE.out]; rfl
  rw [e]
  exact ⟨A, m, cc, rfl, O1.out, B1.out⟩
end
section
open Go.RowKit
theorem dDirty (d : Nat) (F : Nat → Prop) (s : DS) (w : World) (h : DkAt w d F s) : Calls Tryz.prog 78 #[.pointer (some ⟨d, 0, none⟩)] w fun e w' =>
  ∃ A c, e = .returned (.slice A (dirtyL s.L).length c) ∧ w'.ownsRow w.heap.size 3 1 (.slice A (dirtyL s.L).length c) (dirtyL s.L).length ((dirtyL s.L).map (kv .i64)) ∧ Below w.heap.size w w' := by
 obtain ⟨fb, mb, stv, h⟩ := h
 obtain ⟨c0, c1, c2, c3, c4, z2, z3, z4⟩ := dkCell h.obj
 have HM := qH h.map
 have HOK := qH h.ok
 clear h c0 c2 c3 c4 z2 z3 z4
 go_enter Tryz.func78, Tryz.ntmps78
 go_wp2_with fail
 refine (cKeys (some mb) w).mono ?_
 rintro e w1 ⟨rfl, rfl⟩
 have HB : Hid (Below w.heap.size w (w.alloc (.cells #[.map (some mb)] 57))) := (Below.refl _ _).alloc (Nat.le_refl _) _
 have HM1 : Hid (MapIs (w.alloc (.cells #[.map (some mb)] 57)) mb s.L) := HM.out.block (HB.out.block mb HM.out.lt)
 have HC := qH (cell_one_new w (.map (some mb)) 57)
 have HG : Hid (w.heap.size < (w.alloc (.cells #[.map (some mb)] 57)).heap.size) := by show _ < _; simp
 generalize w.alloc (.cells #[.map (some mb)] 57) = w1 at *
 go_wp2_with fail
 refine (cSorted w1 w.heap.size mb s.L HOK.out.len HG.out ?_ HM1.out).mono ?_
 ·have := HC.out 0 _ rfl
  simpa [Addr.add] using this
 rintro e w2 ⟨A, c, rfl, hown, hb⟩
 have O1 := qH hown
 have B1 := qH hb
 clear hown hb
 go_wp2_with fail
 go_ret
 exact ⟨A, c, rfl, own_mono O1.out (Nat.le_of_lt HG.out), HB.out.trans (B1.out.mono (Nat.le_of_lt HG.out))⟩
theorem dDirtyNo (p : Value) (w : World) (h : DkNo w p) : Calls Tryz.prog 78 #[p] w fun e w' => e = .returned (.slice none 0 0) ∧ Below w.heap.size w w' := by
 cases h with
 | none =>
  go_enter Tryz.func78, Tryz.ntmps78
  go_wp2_with fail
  go_ret
  exact ⟨rfl, Below.refl _ _⟩
 | fresh d h =>
  have c1 : w.cell? ⟨d, 1, none⟩ = some (.map none) := by simp [World.cell?, h]
  clear h
  go_enter Tryz.func78, Tryz.ntmps78
  go_wp2_with fail
  refine (cKeys none w).mono ?_
  rintro e w1 ⟨rfl, rfl⟩
  have HB : Hid (Below w.heap.size w (w.alloc (.cells #[.map none] 57))) := (Below.refl _ _).alloc (Nat.le_refl _) _
  have HC := qH (cell_one_new w (.map none) 57)
  have HG : Hid (w.heap.size < (w.alloc (.cells #[.map none] 57)).heap.size) := by show _ < _; simp
  generalize w.alloc (.cells #[.map none] 57) = w1 at *
  go_wp2_with fail
  refine (cSortedNil w1 w.heap.size HG.out ?_).mono ?_
  ·have := HC.out 0 _ rfl
   simpa [Addr.add] using this
  rintro e w2 ⟨rfl, hb⟩
  have B1 := qH hb
  clear hb
  go_wp2_with fail
  go_ret
  exact ⟨rfl, HB.out.trans (B1.out.mono (Nat.le_of_lt HG.out))⟩
theorem u8_and1 (y : Nat) (hy : y < 256) : bits .and .u8 (y : Int) 1 = ((y % 2 : Nat) : Int) := by
 rw [← nat_mask1]; exact u8_and_nat y 1 hy (by decide)
theorem bit_is (x k : Nat) (hx : x < 256) : (bits BinOp.and IntKind.u8 ((x : Int) / 2 ^ k) 1 == 1) = decide (x / 2 ^ k % 2 = 1) := by
 have hp : (0 : Nat) < 2 ^ k := Nat.pow_pos (by decide)
 have e : (x : Int) / 2 ^ k = ((x / 2 ^ k : Nat) : Int) := by rw [Int.natCast_ediv]; simp
 have hlt : x / 2 ^ k < 256 := Nat.lt_of_le_of_lt (Nat.div_le_self _ _) hx
 rw [e, u8_and1 _ hlt]
 by_cases h : x / 2 ^ k % 2 = 1
 ·rw [h]; rfl
 ·have h0 : x / 2 ^ k % 2 = 0 := by omega
  rw [h0]; rfl
theorem dStays (v : Value) (cb : Nat) (stay : List UInt8) (n : Nat) (w : World) (hn : n < 1024) (h : ∀ j, j < 128 → w.cell? ⟨cb, j, none⟩ = some (.int .u8 (nth stay j : Int))) :
  Calls Tryz.prog 77 #[.int .i64 (n : Int), .pointer (some ⟨cb, 0, none⟩)] w fun e w' => e = .returned (.bool (selB stay n)) ∧ w = w' := by
 have hq : n / 8 < 128 := by omega
 have c0 := h (n / 8) hq
 have e1 : (n : Int).tdiv 8 = ((n / 8 : Nat) : Int) := by rw [Int.tdiv_eq_ediv_of_nonneg (by omega)]; omega
 have e2 : (n : Int).tmod 8 = ((n % 8 : Nat) : Int) := by rw [Int.tmod_eq_emod_of_nonneg (by omega)]; omega
 clear h
 go_enter Tryz.func77, Tryz.ntmps77
 go_wp2_with fail
 refine bodyPost_ret (results_tmp rfl _ _ _) rfl ⟨?_, rfl⟩
 show Ending.returned (.bool (bits BinOp.and IntKind.u8 ((nth stay (n / 8) : Int) / 2 ^ (n % 8)) 1 == 1)) = _
 rw [bit_is _ _ (nth_lt _ _)]
 rfl
theorem bits_at {w : World} {g : Nat} {stay : List UInt8} {T : TypeId} (h : w.heap[g]? = some (.cells (splice (bits0.map bval) 0 ((stay.take 128).map bval)).toArray T (0, 0))) : ∀ j, j < 128 → w.cell? ⟨g, j, none⟩ = some (.int .u8 (nth stay j : Int)) := by
 intro j hj
 rw [cell_of_row w g j _ _ _ h]
 simp only [splice, List.take_zero, List.nil_append, Nat.zero_add]
 rw [List.getElem?_toArray]
 by_cases hl : j < ((stay.take 128).map bval).length
 ·rw [List.getElem?_append_left hl, List.getElem?_map]
  have h1 : j < stay.length := by simp at hl; omega
  rw [List.getElem?_take, if_pos hj, List.getElem?_eq_getElem h1, nth_of_lt h1]
  rfl
 ·rw [List.getElem?_append_right (by omega), List.getElem?_drop, List.getElem?_map]
  have h1 : ¬ j < stay.length := by simp at hl; omega
  have e : ((stay.take 128).map bval).length + (j - ((stay.take 128).map bval).length) = j := by omega
  rw [e]
  have h2 : bits0[j]? = some 0 := by unfold bits0; rw [List.getElem?_replicate, if_pos hj]
  rw [h2]
  have h3 : nth stay j = 0 := by unfold nth; simp [List.getD, List.getElem?_eq_none (Nat.le_of_not_lt h1)]
  rw [h3]
  rfl
theorem dSelection (A : Option Addr) (n c : Nat) (stay : List UInt8) (w : World) (h : Rd w w.heap.size A n stay) (hn : n ≤ c) (hc : c ≤ 9223372036854775807) :
  Calls Tryz.prog 47 #[.slice A n c] w fun e w' => ∃ v cb, e = .returned v ∧ StAt w' v cb stay ∧ w.heap.size ≤ cb ∧ cb < w'.heap.size ∧ v.oneCell' = true ∧ Below w.heap.size w w' := by
 have R := qH h
 clear h
 have hz := bit_zero
 have HL := qH R.out.1
 have hcs : ((stay.take 128).map bval).length = Nat.min n 128 := by rw [List.length_map, List.length_take, HL.out]; exact Nat.min_comm _ _
 have HCS := qH hcs
 have hfit : 0 + ((stay.take 128).map bval).length ≤ (bits0.map bval).length := by
  rw [hcs, List.length_map, bits0, List.length_replicate, Nat.zero_add]
  exact Nat.min_le_right n 128
 have HFIT := qH hfit
 clear hcs hfit
 have HB0 : Hid (Below w.heap.size w (w.alloc (.cells (arrB bits0) 113))) := (Below.refl _ _).alloc (Nat.le_refl _) _
 have R1 : Hid (Rd (w.alloc (.cells (arrB bits0) 113)) (w.alloc (.cells (arrB bits0) 113)).heap.size A n stay) := R.out.to HB0.out
 have HG : Hid ((w.alloc (.cells (arrB bits0) 113)).heap[w.heap.size]? = some (.cells (bits0.map bval).toArray 113 (0, 0))) := heap_alloc_last w _
 have HLT : Hid (w.heap.size < (w.alloc (.cells (arrB bits0) 113)).heap.size) := by show _ < _; simp
 have HP : Hid (0 < ((stay.take 128).map bval).length → ∃ ad, A = some ad ∧ ∀ j v, ((stay.take 128).map bval)[j]? = some v → (w.alloc (.cells (arrB bits0) 113)).cell? (ad.add j) = some v) := fun hp => by
  obtain ⟨b, o, rfl, _, hcl⟩ := R1.out.2 (by rw [List.length_map, List.length_take, HL.out] at hp; omega)
  refine ⟨_, rfl, fun j v hv => ?_⟩
  have hj : j < stay.length ∧ j < 128 := by
   rw [List.getElem?_map, List.getElem?_take] at hv
   split at hv
   ·rename_i h128
    refine ⟨?_, h128⟩
    rcases Nat.lt_or_ge j stay.length with g | g
    ·exact g
    ·rw [List.getElem?_eq_none g] at hv; cases hv
   ·cases hv
  rw [List.getElem?_map, List.getElem?_take, if_pos hj.2, List.getElem?_eq_getElem hj.1] at hv
  rw [Addr.add_mid, hcl j (by rw [← HL.out]; exact hj.1), nth_of_lt hj.1]
  exact hv
 go_enter Tryz.func47, Tryz.ntmps47
 go_wp2_with (refine wpList_copy_splice rfl (.tmp 4) (.tmp 5) 35 35 rfl 5 Tryz.underlying35 (by kernel_rfl) _ _ _ _ _ _ rfl rfl w.heap.size 0 (bits0.map bval) 113 HG.out ((stay.take 128).map bval) HCS.out (fun hp => ⟨rfl, HP.out hp⟩) HFIT.out (bvals_one _) w.heap.size w HB0.out (Nat.le_refl _) ?_; intro w6 hg6 hb6)
 have B6 := qH hb6
 have HC := qH (bits_at hg6.out)
 have HG6 := qH (heap_at_lt hg6.out)
 clear hg6 hb6
 go_wp2_with fail
 go_ret
 exact ⟨_, w.heap.size, rfl, ⟨rfl, HC.out⟩, Nat.le_refl _, HG6.out, rfl, B6.out⟩
theorem DkP.own {w w' : World} {d fb mb : Nat} {stv stv' : Value} {F : Nat → Prop} {s : DS} {up : Bool} {left : Nat} {stay : List UInt8} (h : DkP w d fb mb stv F s) (hk : Keep (· = d) w w')
  (ho : w'.heap[d]? = some (.cells (dkCells fb mb s.L.length up left stv') 62 (0, 0))) (hs : left ≠ 0 → ∃ cb, StAt w stv' cb stay ∧ F cb ∧ cb ≠ d ∧ cb ≠ fb ∧ cb ≠ mb) (h1 : stv'.oneCell' = true) (hl : left ≤ 9223372036854775807) :
  DkP w' d fb mb stv' F ⟨s.L, up, left, stay⟩ :=
 ⟨ho, h.secs.block (hk.block fb (h.lt _ h.ff) (fun e => h.df e.symm)), h.map.block (hk.block mb (h.lt _ h.fm) (fun e => h.dm e.symm)), fun hn => by
  obtain ⟨cb, a1, a2, a3, a4, a5⟩ := hs hn
  exact ⟨cb, a1.block (hk.block cb (h.lt _ a2) a3), a2, a3, a4, a5⟩, h1, h.fd, h.ff, h.fm, h.df, h.dm, h.fmne, fun k hf => Nat.lt_of_lt_of_le (h.lt k hf) hk.size, ⟨h.ok.len, h.ok.fl, h.ok.ca, hl⟩⟩
theorem dkSet3 {w : World} {d fb mb n left : Nat} {up : Bool} {stv : Value} {T : TypeId} (h : w.heap[d]? = some (.cells (dkCells fb mb n up left stv) T (0, 0))) (l : Nat) :
  (w.setCell ⟨d, 3, none⟩ (.int .i64 (l : Int))).heap[d]? = some (.cells (dkCells fb mb n up l stv) T (0, 0)) := by
 rw [heap_setCell_same _ _ _ _ _ _ h]; rfl
theorem dkSet2 {w : World} {d fb mb n left : Nat} {up : Bool} {stv : Value} {T : TypeId} (h : w.heap[d]? = some (.cells (dkCells fb mb n up left stv) T (0, 0))) (u : Bool) :
  (w.setCell ⟨d, 2, none⟩ (.bool u)).heap[d]? = some (.cells (dkCells fb mb n u left stv) T (0, 0)) := by
 rw [heap_setCell_same _ _ _ _ _ _ h]; rfl
theorem dkSet4 {w : World} {d fb mb n left : Nat} {up : Bool} {stv : Value} {T : TypeId} (h : w.heap[d]? = some (.cells (dkCells fb mb n up left stv) T (0, 0))) (v : Value) :
  (w.setCell ⟨d, 4, none⟩ v).heap[d]? = some (.cells (dkCells fb mb n up left v) T (0, 0)) := by
 rw [heap_setCell_same _ _ _ _ _ _ h]; rfl
theorem dDue (d fb mb : Nat) (stv : Value) (F : Nat → Prop) (s : DS) (w : World) (h : DkP w d fb mb stv F s) :
  Calls Tryz.prog 49 #[.pointer (some ⟨d, 3, none⟩)] w fun e w' => e = .returned (.bool (decide (s.left = 1))) ∧ DkP w' d fb mb stv F ⟨s.L, s.up, s.left - 1, s.stay⟩ ∧ Keep (· = d) w w' := by
 obtain ⟨c0, c1, c2, c3, c4, z2, z3, z4⟩ := dkCell h.obj
 have H := qH h
 clear h c0 c1 c2 c4 z2 z4
 go_enter Tryz.func49, Tryz.ntmps49
 by_cases h0 : s.left = 0
 ·have H0 := qH h0
  rw [h0] at c3
  clear h0
  go_wp2_with fail
  go_ret
  refine ⟨by rw [H0.out]; rfl, ?_, Keep.refl _ _⟩
  have e : (⟨s.L, s.up, s.left - 1, s.stay⟩ : DS) = s := by show DS.mk s.L s.up (s.left - 1) s.stay = DS.mk s.L s.up s.left s.stay; rw [H0.out]
  rw [e]
  exact H.out
 ·obtain ⟨l, hl⟩ : ∃ l, s.left = l + 1 := ⟨s.left - 1, by omega⟩
  have HL := qH hl
  have hlt := H.out.ok.lt
  rw [hl] at c3 hlt
  have hne : ¬ ((l + 1 : Nat) : Int) = 0 := by omega
  have e1 : ((l + 1 : Nat) : Int) - 1 = (l : Int) := by omega
  clear h0 hl
  go_wp2_with fail
  go_ret
  have hk : Keep (· = d) w (w.setCell ⟨d, 3, none⟩ (.int .i64 (l : Int))) := (Keep.refl _ _).setCell _ _ rfl
  have e2 : s.left - 1 = l := by rw [HL.out]; rfl
  rw [e2]
  refine ⟨?_, H.out.own hk (dkSet3 H.out.obj l) (fun _ => H.out.st (by rw [HL.out]; omega)) H.out.one (by omega), hk⟩
  rw [HL.out]
  show Ending.returned (.bool ((l : Int) == 0)) = _
  congr 2
  by_cases h : l = 0
  ·subst h; rfl
  ·rw [decide_eq_false (by omega)]
   simp
   omega
end
section
open Go.RowKit
structure StaysOf (w : World) (i : FuncId) (cap : Array Value) (C : Nat → Prop) (sel : Nat → Bool) : Prop where
 ci : ∀ (args : Array Value) (w : World), (callFunc i args).run Tryz.prog w = .ok (.enter i args) w
 call : ∀ (n : Nat) (w' : World), n < 1024 → (∀ k, C k → w'.heap[k]? = w.heap[k]?) → Calls Tryz.prog i (#[.int .i64 (n : Int)] ++ cap) w' fun e w'' => e = .returned (.bool (sel n)) ∧ w' = w''
theorem StaysOf.of {w : World} {v : Value} {cb : Nat} {stay : List UInt8} (h : StAt w v cb stay) : StaysOf w 77 #[.pointer (some ⟨cb, 0, none⟩)] (· = cb) (selB stay) :=
 ⟨enters_of Tryz.func77 (by kernel_rfl) rfl, fun n w' hn hk => dStays v cb stay n w' hn (fun j hj => (World.cell?_of_block (hk cb rfl)).trans (h.2 j hj))⟩
theorem dAll (w : World) (n : Nat) : Calls Tryz.prog 54 #[.int .i64 (n : Int)] w fun e w' => e = .returned (.bool true) ∧ w = w' := by
 go_enter Tryz.func54, Tryz.ntmps54
 go_wp2_with fail
 go_ret
 exact ⟨rfl, rfl⟩
theorem StaysOf.all (w : World) : StaysOf w 54 #[] (fun _ => False) (fun _ => true) :=
 ⟨enters_of Tryz.func54 (by kernel_rfl) rfl, fun n w' hn hk => dAll w' n⟩
theorem keep_setCells (w : World) (b : Nat) : ∀ (vs : List Value) (o : Nat), Keep (· = b) w (w.setCells b o vs) := by
 intro vs
 induction vs generalizing w with
 | nil => exact fun o => Keep.refl _ _
 | cons v vs ih => exact fun o => ((Keep.refl (· = b) w).setCell ⟨b, o, none⟩ v rfl).trans (ih _ _)
theorem World.setCells_size (b : Nat) : ∀ (vs : List Value) (o : Nat) (w : World), (w.setCells b o vs).heap.size = w.heap.size
 | [], _, _ => rfl
 | v :: r, o, w => by rw [World.setCells, World.setCells_size b r]; simp
theorem keep_grown {w w' : World} {b : Nat} (h : w.grownBy w' (some b)) : Keep (· = b) w w' := ⟨h.os, h.tape, h.output, h.size, fun k hk hn => h.block k hk (fun e => hn (by injection e))⟩
def SetRel (w1 : World) (d fb mb B : Nat) (L : List Sec) (sel : Nat → Bool) (m : Nat) (i : Value) (wr : World) : Prop :=
 ∃ k : Nat, k ≤ m ∧ i = .int .i64 (k : Int) ∧ SecsAt wr fb (partF sel L k) ∧ Keep (· = fb) w1 wr
theorem partF_len64 {s : DS} (h : s.ok) (sel : Nat → Bool) (k i : Nat) (hi : i < s.L.length) : (partAt sel s.L k i).length = 64 := by
 unfold partAt
 split
 ·exact left1_len (h.secF hi) (fun c hc => h.secC hi hc) sel _
 ·exact h.secF hi
theorem dSettle (d fb mb : Nat) (stv : Value) (F : Nat → Prop) (s : DS) (w : World) (h : DkP w d fb mb stv F s) (i : FuncId) (cap : Array Value) (C : Nat → Prop) (sel : Nat → Bool) (hs : StaysOf w i cap C sel)
  (hC : ∀ k, C k → k < w.heap.size ∧ k ≠ fb) :
  Calls Tryz.prog 53 #[.pointer (some ⟨d, 0, none⟩), .func (.func i) #[] cap] w fun e w' => e = .returned (.tuple #[]) ∧ DkP w' d fb mb stv F ⟨fallL sel 0 s.L, s.up, s.left, s.stay⟩ ∧ Keep (fun k => k = fb ∨ k = mb) w w' := by
 have HD := qH (dDirty d F s w ⟨fb, mb, stv, h⟩)
 have hci := hs.ci
 have HS := qH hs.call
 have HC := qH hC
 have H := qH h
 clear h hs hC
 go_enter Tryz.func53, Tryz.ntmps53
 go_wp2_with fail
 refine (HD.out).mono ?_
 rintro e w1 ⟨A, c, rfl, hown, hb⟩
 have B1 := qH hb
 have R1 := qH (RdK.of_own hown)
 have H1 := qH (H.out.to hb)
 have HOH := qH (own_head hown)
 have HMM : Hid ((dirtyL s.L).length ≤ s.L.length) := dirtyFrom_le 0 s.L
 clear hown hb
 generalize hm : (dirtyL s.L).length = m at *
 have HM := qH hm
 clear hm
 go_wp2_with fail
 go_loopw [9] (fun i wr => SetRel w1 d fb mb w.heap.size s.L sel m i wr) (fun i _ => m - (intOf i).toNat)
 case atStart =>
  refine ⟨0, Nat.zero_le _, rfl, ?_, Keep.refl _ _⟩
  rw [partF_zero]
  exact H1.out.secs
 case round =>
  obtain ⟨k, hk, rfl, hsec, hkeep⟩ := hrel
  have S1 := qH hsec
  have K1 := qH hkeep
  have HK := qH hk
  clear hsec hkeep hk
  by_cases hlt : k < m
  ·have HLT : Hid (k < m) := hlt
   obtain ⟨g, rfl, hBg⟩ := HOH.out (by omega)
   have hg1 : g < w1.heap.size := by
    obtain ⟨b, o, e, hb, _⟩ := R1.out.2 (by omega)
    injection e with e; injection e with e1 _
    rw [e1]; exact hb
   have hgf : g ≠ fb := fun e => by have := H.out.lt _ H.out.ff; omega
   have hel : k < (dirtyL s.L).length := by rw [HM.out]; exact hlt
   have hget : (dirtyL s.L)[k]? = some (nx (dirtyL s.L) k) := by rw [nx_of_lt hel]; exact List.getElem?_eq_getElem hel
   have HGET := qH hget
   obtain ⟨hi1, hi2, hi3⟩ := dirtyL_get hget
   have hcell : wr.cell? ⟨g, k, none⟩ = some (.int .i64 (nx (dirtyL s.L) k : Int)) := by
    rw [K1.out.cell (a := ⟨g, k, none⟩) hg1 hgf]
    have := R1.out.at (j := k) hlt
    rw [Nat.zero_add] at this
    exact this
   generalize nx (dirtyL s.L) k = j at *
   obtain ⟨c, hc⟩ := Option.isSome_iff_exists.1 hi2
   have HC2 := qH hc
   have HJ := qH hi1
   have HR3 := qH hi3
   have hk1024 : k < 1024 := by have := H.out.ok.len; have := HMM.out; omega
   have HCALL := qH (HS.out k wr hk1024 (fun b hb => ((K1.out.block b (Nat.lt_of_lt_of_le (HC.out b hb).1 B1.out.size) (HC.out b hb).2).trans (B1.out.block b (HC.out b hb).1))))
   have hgl : g < wr.heap.size := Nat.lt_of_lt_of_le hg1 K1.out.size
   have hkI : (k : Int) < 1024 := by omega
   clear hget hi1 hi2 hi3 hc hk1024 hel
   go_wp2_with fail
   refine (HCALL.out).mono ?_
   rintro e w2 ⟨rfl, rfl⟩
   cases hsk : sel k
   ·have HSK := qH hsk
    clear hsk
    go_wp2_with fail
    go_roundw
    case rel =>
     refine ⟨k + 1, HLT.out, by go_num, ?_, K1.out⟩
     rw [partF_skip sel HGET.out HSK.out]
     exact S1.out
    case measure => have := HLT.out; simp [intOf]; omega
   ·have HSK := qH hsk
    clear hsk
    have HX0 : Hid (wr.cell? ⟨d, 0, none⟩ = some (.slice (some ⟨fb, 0, none⟩) s.L.length s.L.length)) := by
     show _ = _
     rw [K1.out.cell (a := ⟨d, 0, none⟩) (H1.out.lt _ H1.out.fd) H.out.df]
     exact (dkCell H1.out.obj).1
    have HX1 : Hid (wr.cell? ⟨d, 1, none⟩ = some (.map (some mb))) := by
     show _ = _
     rw [K1.out.cell (a := ⟨d, 1, none⟩) (H1.out.lt _ H1.out.fd) H.out.df]
     exact (dkCell H1.out.obj).2.1
    have HXM : Hid (MapIs wr mb s.L) := H1.out.map.block (K1.out.block mb (H1.out.lt _ H1.out.fm) (fun e => H.out.fmne e.symm))
    have HDF : Hid (d ≠ fb) := H.out.df
    have HMF : Hid (mb ≠ fb) := fun e => H.out.fmne e.symm
    have HLEN := qH H.out.ok.len
    have HCL := qH (H.out.ok.secC HJ.out HC2.out)
    have hjn : (j : Int) < (s.L.length : Int) := by have := HJ.out; omega
    clear hcell
    go_wp2_with fail
    replace S1 : Hid (SecsAt wr.drew fb (partF sel s.L k)) := S1.out.block rfl
    replace K1 : Hid (Keep (· = fb) w1 wr.drew) := K1.out.drew
    replace HX0 : Hid (wr.drew.cell? ⟨d, 0, none⟩ = some (.slice (some ⟨fb, 0, none⟩) s.L.length s.L.length)) := HX0.out
    replace HX1 : Hid (wr.drew.cell? ⟨d, 1, none⟩ = some (.map (some mb))) := HX1.out
    replace HXM : Hid (MapIs wr.drew mb s.L) := HXM.out.block rfl
    generalize hwd : wr.drew = wd at *
    have HWD := qH hwd
    clear hwd
    refine wp_region_held_drew (S := (fun w' => ∀ b, b ≠ fb → w'.heap[b]? = wd.heap[b]?)) (by kernel_rfl) ((by rw [HWD.out]; exact fun _ _ => rfl)) (fun hHeld => ?_)
    rw [HWD.out] at hHeld ⊢
    refine tk 0 ?_
    simp only [pR]
    refine tk 1 ?_
    simp only [pR]
    refine tk 2 ?_
    simp only [pR]
    refine tw 3 rfl (by intro w hSw; (try dsimp only at hSw); (have c0 := (World.cell?_of_block (a := ⟨d, 0, none⟩) (hSw d HDF.out)).trans HX0.out); clear hSw; go_simp; (try with_reducible rfl)) ?_
    simp only [pR]
    refine tk 4 ?_
    simp only [pR]
    refine tk 5 ?_
    simp only [pR]
    refine tk 6 ?_
    simp only [pR]
    refine tk 7 ?_
    simp only [pR]
    refine tw 8 rfl (by intro w hSw; (try dsimp only at hSw); (have c1 := (World.cell?_of_block (a := ⟨d, 1, none⟩) (hSw d HDF.out)).trans HX1.out); clear hSw; go_simp; (try with_reducible rfl)) ?_
    simp only [pR]
    refine tk 9 ?_
    simp only [pR]
    refine tw 10 rfl (by intro w hSw; (try dsimp only at hSw); (have hl := ((HXM.out.block (hSw mb HMF.out)).look HLEN.out HJ.out (sec_zero _)).2); rw [HC2.out] at hl; simp only [Option.map_some, Option.getD_some, secV] at hl; clear hSw; go_simp; (try with_reducible rfl)) ?_
    simp only [pR]
    refine tk 11 ?_
    simp only [pR]
    have HTH : Hid (wd.there fb (j * 64) (arrB c).size) := by rw [arrB_size, HCL.out]; exact S1.out.thereAt (by rw [partF_length]; exact HJ.out)
    refine rd1 12 (fun K hK => ?_)
    rw [if_pos (by rfl)]
    refine wp_store_mid 86 _ _ rfl fb (j * 64) (arrB c) rfl rfl HTH.out (sec_size HCL.out) (arrB_one _) ?_
    have HKS := qH (keep_setCells wd fb (arrB c).toList (j * 64))
    have HS2 : Hid (SecsAt (wd.setCells fb (j * 64) (arrB c).toList) fb ((partF sel s.L k).set j c)) := S1.out.set (i := j) (by rw [partF_length]; exact HJ.out) HCL.out
    refine hK.out _ _ (fun b hb => ?_) (fun hHeld => ?_)
    ·rcases Nat.lt_or_ge b wd.heap.size with g | g
     ·exact HKS.out.block b g hb
     ·rw [Array.getElem?_eq_none g, Array.getElem?_eq_none (by rw [World.setCells_size]; exact g)]
    clear hK K hHeld
    refine wpAnyH_done (by kernel_rfl) ?_ _
    replace K1 := qH (K1.out.trans HKS.out)
    generalize wd.setCells fb (j * 64) (arrB c).toList = w5 at *
    go_wp2_with fail
    go_roundw
    case rel =>
     refine ⟨k + 1, HLT.out, by go_num, ?_, K1.out⟩
     rw [partF_succ sel HGET.out]
     have e : left1 sel k (secAt s.L j) = c := by unfold left1; rw [HC2.out]; simp [HSK.out]
     rw [e]
     exact HS2.out
    case measure => have := HLT.out; simp [intOf]; omega
  ·obtain rfl : k = m := by have := HK.out; omega
   have hkI : (k : Int) < 1025 := by have := H.out.ok.len; have := HMM.out; omega
   have HX0 : Hid (wr.cell? ⟨d, 1, none⟩ = some (.map (some mb))) := by
    show _ = _
    rw [K1.out.cell (a := ⟨d, 1, none⟩) (H1.out.lt _ H1.out.fd) H.out.df]
    exact (dkCell H1.out.obj).2.1
   have HXM : Hid (MapIs wr mb s.L) := H1.out.map.block (K1.out.block mb (H1.out.lt _ H1.out.fm) (fun e => H.out.fmne e.symm))
   obtain ⟨w6, hclr, hm6, hturn⟩ := HXM.out.clear (L' := fallL sel 0 s.L) (fun x hx => by obtain ⟨_, _, _, rfl⟩ := fallL_mem hx; rfl) 0
   have c1 := HX0.out
   have HM6 := qH hm6
   have HT6 := qH hturn
   clear hm6 hturn
   go_wp2_with fail
   refine bodyPost_end (results_none rfl _ _ _) rfl ⟨rfl, ?_, ?_⟩
   ·have K6 : Keep (· = mb) wr w6 := keep_grown HT6.out.grown
    have KA : Keep (fun b => b = fb ∨ b = mb) w1 w6 := (K1.out.more (fun _ h => .inl h)).trans (K6.more (fun _ h => .inr h))
    have S6 := (S1.out.block (K6.block fb (Nat.lt_of_lt_of_le (H1.out.lt _ H1.out.ff) K1.out.size) H.out.fmne))
    have e : partF sel s.L k = (fallL sel 0 s.L).map (·.1) := by rw [← partF_all, HM.out]
    rw [e] at S6
    refine ⟨?_, S6, HM6.out, fun hn => ?_, H.out.one, H.out.fd, H.out.ff, H.out.fm, H.out.df, H.out.dm, H.out.fmne, fun b hb => Nat.lt_of_lt_of_le (H1.out.lt b hb) KA.size, H.out.ok.fallen sel H.out.ok.lt s.stay⟩
    ·simp only [fallL_length]
     rw [KA.block d (H1.out.lt _ H1.out.fd) (fun h => h.elim H.out.df H.out.dm)]
     exact H1.out.obj
    ·obtain ⟨cb, a1, a2, a3, a4, a5⟩ := H1.out.st hn
     exact ⟨cb, a1.block (KA.block cb (H1.out.lt _ a2) (fun h => h.elim a4 a5)), a2, a3, a4, a5⟩
   ·exact ((Keep.of_below B1.out).trans (K1.out.more (fun _ h => .inl h))).trans ((keep_grown HT6.out.grown).more (fun _ h => .inr h))
end
section
open Go.RowKit
def DkTo (w : World) (d : Nat) (F : Nat → Prop) (r : Int × DS) (e : Ending) (w' : World) : Prop :=
 e = .returned (.int .i64 r.1) ∧ ∃ F', DkAt w' d F' r.2 ∧ (∀ k, F' k → F k ∨ w.heap.size ≤ k) ∧ Keep F w w'
def DkSt (w : World) (d : Nat) (F : Nat → Prop) (r : Int × DS) (e : Ending) (w' : World) : Prop := e = .returned (.int .i64 r.1) ∧ DkAt w' d F r.2 ∧ Keep F w w'
theorem DkSt.to {w w' : World} {d : Nat} {F : Nat → Prop} {r : Int × DS} {e : Ending} (h : DkSt w d F r e w') : DkTo w d F r e w' := ⟨h.1, F, h.2.1, fun _ hk => .inl hk, h.2.2⟩
theorem DkSt.same {w : World} {d : Nat} {F : Nat → Prop} {s : DS} {n : Int} (h : DkAt w d F s) : DkSt w d F (n, s) (.returned (.int .i64 n)) w := ⟨rfl, h, Keep.refl _ _⟩
theorem DkSt.after {w0 w w' : World} {d : Nat} {F : Nat → Prop} {r : Int × DS} {e : Ending} (hb : Below w0.heap.size w0 w) (h : DkSt w d F r e w') : DkSt w0 d F r e w' := ⟨h.1, h.2.1, (Keep.of_below hb).trans h.2.2⟩
theorem DkSt.is {w w' : World} {d : Nat} {F : Nat → Prop} {r r' : Int × DS} {e : Ending} (h : DkSt w d F r e w') (hr : r = r') : DkSt w d F r' e w' := hr ▸ h
theorem DkTo.same {w : World} {d : Nat} {F : Nat → Prop} {s : DS} {n : Int} (h : DkAt w d F s) : DkTo w d F (n, s) (.returned (.int .i64 n)) w := ⟨rfl, F, h, fun _ hk => .inl hk, Keep.refl _ _⟩
theorem store4 {w : World} {d fb mb n left : Nat} {up : Bool} {stv v : Value} {T : TypeId} (h : w.heap[d]? = some (.cells (dkCells fb mb n up left stv) T (0, 0))) (hv : v.oneCell' = true) :
  (store ⟨d, 4, none⟩ v).run Tryz.prog w = .ok () (w.setCell ⟨d, 4, none⟩ v) := by
 obtain ⟨_, _, _, _, c4, _, _, z4⟩ := dkCell h
 rw [run_store Tryz.prog _ _ _ _ hv, c4]
 simp [z4]
theorem dFall (d fb mb : Nat) (stv : Value) (F : Nat → Prop) (s : DS) (w : World) (h : DkP w d fb mb stv F s) (i : FuncId) (cap : Array Value) (C : Nat → Prop) (sel : Nat → Bool) (hs : StaysOf w i cap C sel)
  (hC : ∀ k, C k → k < w.heap.size ∧ k ≠ fb) :
  Calls Tryz.prog 55 #[.pointer (some ⟨d, 0, none⟩), .func (.func i) #[] cap] w fun e w' => e = .returned (.tuple #[]) ∧ DkP w' d fb mb Value.nilFunc F (s.fall sel) ∧ Keep F w w' := by
 have H := qH h
 have HS := qH (dSettle d fb mb stv F s w h i cap C sel hs hC)
 clear h hs hC
 go_enter Tryz.func55, Tryz.ntmps55
 go_wp2_with fail
 refine (HS.out).mono ?_
 rintro e w1 ⟨rfl, hp, hk⟩
 obtain ⟨c0, c1, c2, c3, c4, z2, z3, z4⟩ := dkCell hp.obj
 have H1 := qH hp
 have K1 : Hid (Keep F w w1) := hk.more (fun k h => by rcases h with rfl | rfl; exact H.out.ff; exact H.out.fm)
 have hst : (store ⟨d, 4, none⟩ Value.nilFunc).run Tryz.prog ((w1.setCell ⟨d, 2, none⟩ (.bool false)).setCell ⟨d, 3, none⟩ (.int .i64 0)) = .ok () (((w1.setCell ⟨d, 2, none⟩ (.bool false)).setCell ⟨d, 3, none⟩ (.int .i64 0)).setCell ⟨d, 4, none⟩ Value.nilFunc) := by
  have o3 : ((w1.setCell ⟨d, 2, none⟩ (.bool false)).setCell ⟨d, 3, none⟩ (.int .i64 0)).heap[d]? = _ := dkSet3 (dkSet2 hp.obj false) 0
  exact store4 o3 rfl
 clear hp hk c0 c1
 go_wp2_with fail
 refine bodyPost_end (results_none rfl _ _ _) rfl ⟨rfl, ?_, ?_⟩
 ·have o4 : (((w1.setCell ⟨d, 2, none⟩ (.bool false)).setCell ⟨d, 3, none⟩ (.int .i64 0)).setCell ⟨d, 4, none⟩ Value.nilFunc).heap[d]? = _ := dkSet4 (dkSet3 (dkSet2 H1.out.obj false) 0) Value.nilFunc
  have hk : Keep (· = d) w1 (((w1.setCell ⟨d, 2, none⟩ (.bool false)).setCell ⟨d, 3, none⟩ (.int .i64 0)).setCell ⟨d, 4, none⟩ Value.nilFunc) := (((Keep.refl (· = d) w1).setCell ⟨d, 2, none⟩ _ rfl).setCell ⟨d, 3, none⟩ _ rfl).setCell ⟨d, 4, none⟩ _ rfl
  exact H1.out.own hk o4 (fun h => absurd rfl h) rfl (Nat.zero_le _)
 ·exact ((K1.out.setCell _ _ H.out.fd).setCell _ _ H.out.fd).setCell _ _ H.out.fd
theorem dCrash (d : Nat) (F : Nat → Prop) (s : DS) (A : Option Addr) (n c : Nat) (stay : List UInt8) (w : World) (h : DkAt w d F s) (hr : Rd w w.heap.size A n stay) (hn : n ≤ c) (hc : c ≤ 9223372036854775807) :
  Calls Tryz.prog 32 #[.pointer (some ⟨d, 0, none⟩), .slice A n c] w (DkTo w d F (s.crash stay)) := by
 have HST := qH (dState d F s w h)
 have H := qH h
 have R := qH hr
 clear h hr
 go_enter Tryz.func32, Tryz.ntmps32
 go_wp2_with fail
 refine (HST.out).mono ?_
 rintro e w1 ⟨rfl, rfl⟩
 cases hu : s.up
 ·have HU := qH hu
  clear hu
  go_wp2_with fail
  go_ret
  rw [DS.crash, HU.out, if_pos rfl]
  exact DkTo.same H.out
 ·have HU := qH hu
  clear hu
  go_wp2_with fail
  refine (dSelection A n c stay w R.out hn hc).mono ?_
  rintro e w1 ⟨v, cb, rfl, hst, hcb, hcl, h1, hb⟩
  obtain ⟨fb, mb, stv, hP⟩ := H.out
  have H1 := qH (hP.to hb)
  have HC := qH (dFall d fb mb stv F s w1 H1.out _ _ _ _ (StaysOf.of hst) (fun k hk => by subst hk; exact ⟨hcl, fun e => by have := hP.lt _ hP.ff; omega⟩))
  obtain rfl := hst.1
  have HB := qH hb
  clear hb hst hP h1
  go_wp2_with fail
  refine (HC.out).mono ?_
  rintro e w2 ⟨rfl, hp, hk⟩
  have H2 := qH hp
  have K2 := qH hk
  clear hp hk
  go_wp2_with fail
  go_ret
  rw [DS.crash, HU.out, if_neg (by decide)]
  exact ⟨rfl, F, ⟨fb, mb, _, H2.out⟩, fun _ hk => .inl hk, (Keep.of_below HB.out).trans K2.out⟩
theorem dStart (d : Nat) (F : Nat → Prop) (s : DS) (w : World) (h : DkAt w d F s) : Calls Tryz.prog 26 #[.pointer (some ⟨d, 0, none⟩)] w (DkTo w d F s.start) := by
 have HST := qH (dState d F s w h)
 obtain ⟨fb, mb, stv, h⟩ := h
 obtain ⟨c0, c1, c2, c3, c4, z2, z3, z4⟩ := dkCell h.obj
 have H := qH h
 clear h c0 c1 c3 c4 z3 z4
 go_enter Tryz.func26, Tryz.ntmps26
 go_wp2_with fail
 refine (HST.out).mono ?_
 rintro e w1 ⟨rfl, rfl⟩
 cases hu : s.up
 ·have HU := qH hu
  clear hu
  go_wp2_with fail
  go_ret
  rw [DS.start, HU.out, if_neg (by decide)]
  have hk : Keep (· = d) w (w.setCell ⟨d, 2, none⟩ (.bool true)) := (Keep.refl _ _).setCell _ _ rfl
  exact ⟨rfl, F, ⟨fb, mb, stv, H.out.own hk (dkSet2 H.out.obj true) H.out.st H.out.one H.out.ok.lt⟩, fun _ hk => .inl hk, (Keep.refl _ _).setCell _ _ H.out.fd⟩
 ·have HU := qH hu
  clear hu
  go_wp2_with fail
  go_ret
  rw [DS.start, HU.out, if_pos rfl]
  exact DkTo.same ⟨fb, mb, stv, H.out⟩
theorem dArm (d : Nat) (F : Nat → Prop) (s : DS) (i : Int) (A : Option Addr) (n c : Nat) (stay : List UInt8) (w : World) (h : DkAt w d F s) (hi : i ≤ 9223372036854775807) (hr : Rd w w.heap.size A n stay) (hn : n ≤ c) (hc : c ≤ 9223372036854775807) :
  Calls Tryz.prog 25 #[.pointer (some ⟨d, 0, none⟩), .int .i64 i, .slice A n c] w (DkTo w d F (s.arm i stay)) := by
 have HST := qH (dState d F s w h)
 have H := qH h
 have R := qH hr
 have HI := qH hi
 clear h hr hi
 go_enter Tryz.func25, Tryz.ntmps25
 go_wp2_with fail
 refine (HST.out).mono ?_
 rintro e w1 ⟨rfl, rfl⟩
 cases hu : s.up
 ·have HU := qH hu
  clear hu
  go_wp2_with fail
  go_ret
  rw [DS.arm, HU.out, if_pos rfl]
  exact DkTo.same H.out
 have HU := qH hu
 clear hu
 by_cases hlt : i < 1
 ·have HL : Hid (i < 1) := hlt
  go_wp2_with fail
  go_ret
  rw [DS.arm, HU.out, if_neg (by decide), if_pos (by exact hlt)]
  exact DkTo.same H.out
 ·obtain ⟨l, rfl⟩ : ∃ l : Nat, i = (l : Int) := ⟨i.toNat, by omega⟩
  have HL : Hid (1 ≤ l) := by show _ ≤ _; omega
  go_wp2_with fail
  refine (dSelection A n c stay w R.out hn hc).mono ?_
  rintro e w1 ⟨v, cb, rfl, hst, hcb, hcl, h1, hb⟩
  obtain ⟨fb, mb, stv, hP⟩ := H.out
  have H1 := qH (hP.to hb)
  have HLT := qH hP.lt
  have HB := qH hb
  obtain rfl := hst.1
  have HST1 := qH hst
  have HCB : Hid (w.heap.size ≤ cb) := hcb
  have HCL : Hid (cb < w1.heap.size) := hcl
  obtain ⟨c0, c1, c2, c3, c4, z2, z3, z4⟩ := dkCell H1.out.obj
  have hs4 := store4 (v := .func (.func 77) #[] #[.pointer (some ⟨cb, 0, none⟩)]) (dkSet3 H1.out.obj l) rfl
  clear hb hst hP hcb hcl h1 c0 c1 c2 z2
  go_wp2_with fail
  go_ret
  have H2 := H1.out.more (G := fun k => F k ∨ k = cb) (fun k h => .inl h) (fun k h => by rcases h with h | rfl; exact Nat.lt_of_lt_of_le (HLT.out k h) HB.out.size; exact HCL.out)
  have hne : ∀ k, F k → cb ≠ k := fun k hk e => by have := HLT.out k hk; have := HCB.out; omega
  have hK : Keep (· = d) w1 ((w1.setCell ⟨d, 3, none⟩ (.int .i64 (l : Int))).setCell ⟨d, 4, none⟩ (.func (.func 77) #[] #[.pointer (some ⟨cb, 0, none⟩)])) := ((Keep.refl (· = d) w1).setCell ⟨d, 3, none⟩ _ rfl).setCell ⟨d, 4, none⟩ _ rfl
  rw [show s.arm (l : Int) stay = (0, ⟨s.L, s.up, l, stay⟩) from by unfold DS.arm; rw [if_neg (by rw [HU.out]; decide), if_neg (by have := HL.out; omega), Int.toNat_natCast]]
  refine ⟨rfl, fun k => F k ∨ k = cb, ⟨fb, mb, _, H2.own hK (dkSet4 (dkSet3 H1.out.obj l) _) (fun _ => ⟨cb, HST1.out, .inr rfl, hne d H1.out.fd, hne fb H1.out.ff, hne mb H1.out.fm⟩) rfl (by have := HI.out; omega)⟩, fun k h => by rcases h with h | rfl; exact .inl h; exact .inr HCB.out, ?_⟩
  exact ((Keep.of_below HB.out).setCell _ _ H1.out.fd).setCell _ _ H1.out.fd
def ActOf (w : World) (d : Nat) (F : Nat → Prop) (s2 : DS) (e : Ending) (w' : World) : Prop :=
 e = .returned (.tuple #[]) ∧ DkAt w' d F s2 ∧ Keep F w w'
theorem dOperate (d : Nat) (F : Nat → Prop) (s s2 : DS) (w : World) (h : DkAt w d F s) (g : FuncId) (cap : Array Value) (hci : ∀ (args : Array Value) (w : World), (callFunc g args).run Tryz.prog w = .ok (.enter g args) w)
  (hact : s.left ≠ 1 → ∀ w1, Keep (· = d) w w1 → DkAt w1 d F ⟨s.L, s.up, s.left - 1, s.stay⟩ → Calls Tryz.prog g cap w1 (ActOf w1 d F s2)) :
  Calls Tryz.prog 48 #[.pointer (some ⟨d, 0, none⟩), .func (.func 49) #[.pointer (some ⟨d, 3, none⟩)] #[], .func (.func g) #[] cap] w
   (DkSt w d F (if s.left = 1 then (60, s.fall (selB s.stay)) else (0, s2))) := by
 obtain ⟨fb, mb, stv, hP⟩ := h
 have HD := qH (dDue d fb mb stv F s w hP)
 have H := qH hP
 have HA := qH hact
 have hcd := enters_of Tryz.func49 (by kernel_rfl) rfl
 clear hP hact
 obtain ⟨r, hr⟩ : ∃ r, (if s.left = 1 then ((60 : Int), s.fall (selB s.stay)) else (0, s2)) = r := ⟨_, rfl⟩
 rw [hr]
 have HR := qH hr
 clear hr
 go_enter Tryz.func48, Tryz.ntmps48
 go_wp2_with fail
 refine (HD.out).mono ?_
 rintro e w1 ⟨rfl, hp, hk⟩
 have H1 := qH hp
 have K1 := qH hk
 by_cases h1 : s.left = 1
 ·have HL := qH h1
  obtain ⟨cb, hst, hF, n1, n2, n3⟩ := H.out.st (by rw [h1]; decide)
  have HST1 : StAt w1 stv cb s.stay := hst.block (hk.block cb (H.out.lt _ hF) n1)
  obtain rfl := hst.1
  obtain ⟨c0, c1, c2, c3, c4, z2, z3, z4⟩ := dkCell hp.obj
  have HC := qH (dFall d fb mb _ F _ w1 hp _ _ _ _ (StaysOf.of HST1) (fun k hk => by subst hk; exact ⟨hp.lt _ hF, n2⟩))
  have e1 : decide (s.left = 1) = true := by simp [h1]
  rw [e1]
  clear hp hk hst hF n1 n2 n3 HST1 h1 e1 c0 c1 c2 c3 z2 z3 z4
  go_wp2_with fail
  refine (HC.out).mono ?_
  rintro e w2 ⟨rfl, hp, hk⟩
  have H2 := qH hp
  have K2 := qH hk
  clear hp hk
  go_wp2_with fail
  go_ret
  rw [← HR.out, if_pos HL.out]
  exact ⟨rfl, ⟨fb, mb, _, H2.out⟩, (K1.out.more (fun k h => by rw [h]; exact H.out.fd)).trans K2.out⟩
 ·have HL : Hid (¬ s.left = 1) := h1
  have HC := qH (HA.out h1 w1 hk ⟨fb, mb, stv, hp⟩)
  have e1 : decide (s.left = 1) = false := by simp [h1]
  rw [e1]
  clear hp hk h1 e1
  go_wp2_with fail
  refine (HC.out).mono ?_
  rintro e w2 ⟨rfl, hd, hk⟩
  have H2 := qH hd
  have K2 := qH hk
  clear hd hk
  go_wp2_with fail
  go_ret
  rw [← HR.out, if_neg (by exact HL.out)]
  exact ⟨rfl, H2.out, (K1.out.more (fun k h => by rw [h]; exact H.out.fd)).trans K2.out⟩
end
section
open Go.RowKit
theorem run_arrayAt64 (w : World) (a : Option Addr) (n c : Nat) (hn : 64 ≤ n) : (Instr.arrayAt 86 (.slice a n c)).run Tryz.prog w = .ok (.pointer a) w := by
 have h : ¬ n < 64 := by omega
 simp [Instr.arrayAt, run_underlying Tryz.underlying86, h]
theorem wp_mapUpdate_run {P : Program} {op : Oper} {a : Act} {w w' : World} {K : Act → World → Prop} {Q : Exit → Act → World → Prop} (t : TypeId) (m x v : Operand) (ho : op.op = .mapUpdate t m x v) {mv xv vv : Value} (hm : a.eval m = mv) (hx : a.eval x = xv) (hv : a.eval v = vv)
  (hrun : (Instr.mapUpdate t mv xv vv).run P w = .ok () w') (h : K (a.put op.dst undef) w') : op.wp P a w K Q := by
 unfold Oper.wp
 simp [execOp, ho, hm, hx, hv, hrun, Result.andThen]
 exact h
theorem set_fst {L : List Sec} {i : Nat} (hi : i < L.length) (b : List UInt8) : (L.set i ((secAt L i).1, some b)).map (·.1) = L.map (·.1) := by
 rw [List.map_set, secAt_lt hi]
 refine List.ext_getElem (by simp) fun j h1 h2 => ?_
 rw [List.getElem_set]
 split
 ·rename_i e; subst e; simp
 ·rfl
theorem DkP.cached {w w' : World} {d fb mb : Nat} {stv : Value} {F : Nat → Prop} {s : DS} (h : DkP w d fb mb stv F s) (hk : Keep (· = mb) w w') {i : Nat} (hi : i < s.L.length) {b : List UInt8} (hb : b.length = 64) (hm : MapIs w' mb (s.L.set i ((secAt s.L i).1, some b))) :
  DkP w' d fb mb stv F ⟨s.L.set i ((secAt s.L i).1, some b), s.up, s.left, s.stay⟩ := by
 refine ⟨?_, ?_, hm, fun hn => ?_, h.one, h.fd, h.ff, h.fm, h.df, h.dm, h.fmne, fun k hf => Nat.lt_of_lt_of_le (h.lt k hf) hk.size, ?_⟩
 ·simp only [List.length_set]
  exact (hk.block d (h.lt _ h.fd) h.dm).trans h.obj
 ·simp only [set_fst hi]
  exact h.secs.block (hk.block fb (h.lt _ h.ff) h.fmne)
 ·obtain ⟨cb, a1, a2, a3, a4, a5⟩ := h.st hn
  exact ⟨cb, a1.block (hk.block cb (h.lt _ a2) a5), a2, a3, a4, a5⟩
 ·have h1 := h.ok.put hi hb
  exact ⟨h1.len, h1.fl, h1.ca, h.ok.lt⟩
theorem dWrite1 (d : Nat) (F : Nat → Prop) (s : DS) (k : Nat) (A : Option Addr) (c : Nat) (b : List UInt8) (w : World) (gb gd gi : Nat) (h : DkAt w d F s) (hk : k < s.L.length) (hr : Rd w w.heap.size A 64 b) (ho : Off A 64 F)
  (h1 : w.cell? ⟨gb, 0, none⟩ = some (.slice A 64 c)) (h2 : w.cell? ⟨gd, 0, none⟩ = some (.pointer (some ⟨d, 0, none⟩))) (h3 : w.cell? ⟨gi, 0, none⟩ = some (.int .i64 (k : Int))) (n1 : ¬ F gb) (n2 : ¬ F gd) (n3 : ¬ F gi) :
  Calls Tryz.prog 50 #[.pointer (some ⟨gb, 0, none⟩), .pointer (some ⟨gd, 0, none⟩), .pointer (some ⟨gi, 0, none⟩)] w (ActOf w d F ⟨s.L.set k ((secAt s.L k).1, some b), s.up, s.left, s.stay⟩) := by
 obtain ⟨fb, mb, stv, hP⟩ := h
 obtain ⟨ba, oa, rfl, hba, hcl⟩ := hr.2 (by decide)
 have HB64 := qH hr.1
 have hrange : w.rangeAt ba oa (b.map bval) := fun j v hv => by
  have hj : j < b.length := by
   rcases Nat.lt_or_ge j b.length with g | g
   ·exact g
   ·rw [List.getElem?_eq_none (by simpa using g)] at hv; cases hv
  rw [hcl j (by rw [← HB64.out]; exact hj), ← hv, List.getElem?_map, List.getElem?_eq_getElem hj, nth_of_lt hj]
  rfl
 have HNB : Hid (ba ≠ mb) := fun e => ho (by decide) ba oa rfl (by rw [e]; exact hP.fm)
 have N1 : Hid (gb ≠ mb) := fun e => n1 (by rw [e]; exact hP.fm)
 have N2 : Hid (gd ≠ mb) := fun e => n2 (by rw [e]; exact hP.fm)
 have N3 : Hid (gi ≠ mb) := fun e => n3 (by rw [e]; exact hP.fm)
 have C1 : Hid (w.drew.cell? ⟨gb, 0, none⟩ = some (.slice (some ⟨ba, oa, none⟩) 64 c)) := h1
 have C2 : Hid (w.drew.cell? ⟨gd, 0, none⟩ = some (.pointer (some ⟨d, 0, none⟩))) := h2
 have C3 : Hid (w.drew.cell? ⟨gi, 0, none⟩ = some (.int .i64 (k : Int))) := h3
 have CM : Hid (w.drew.cell? ⟨d, 1, none⟩ = some (.map (some mb))) := (dkCell hP.obj).2.1
 have HR : Hid (w.drew.rangeAt ba oa (b.map bval)) := hrange
 have MD : Hid (MapIs w.drew mb s.L) := hP.map.block rfl
 have HLEN := qH hP.ok.len
 have H := qH hP
 have HK := qH hk
 have HSZ := qH (sec_len HB64.out)
 have hu := Tryz.underlying86
 clear hP hr ho h1 h2 h3 n1 n2 n3 hcl hba hrange hk
 go_enter Tryz.func50, Tryz.ntmps50
 obtain ⟨wd, hwd⟩ : ∃ wd, w.drew = wd := ⟨_, rfl⟩
 have HWD := qH hwd
 rw [hwd] at C1 C2 C3 CM HR MD
 clear hwd
 obtain ⟨w5, hrun, hm5, hg5, _⟩ := MD.out.store HLEN.out HK.out (secAt s.L k).1 b
 have HRUN := qH hrun
 have HM5 := qH hm5
 have HG5 := qH (keep_grown hg5)
 clear hrun hm5 hg5
 have HDM : Hid (d ≠ mb) := H.out.dm
 have L1 := qH (World.block_lt_of_cell? wd _ C1.out)
 have L2 := qH (World.block_lt_of_cell? wd _ C2.out)
 have L3 := qH (World.block_lt_of_cell? wd _ C3.out)
 have LD := qH (World.block_lt_of_cell? wd _ CM.out)
 have LB := qH (World.block_lt_of_cell? wd _ (HR.out 0 (bval (b.getD 0 0)) (by rw [List.getElem?_map, List.getElem?_eq_getElem (by rw [HB64.out]; decide)]; simp [List.getD, HB64.out])))
 refine wp_region_held_drew (S := (fun w' => ∀ b', b' < wd.heap.size → b' ≠ mb → w'.heap[b']? = wd.heap[b']?)) (by kernel_rfl) ((by rw [HWD.out]; exact fun _ _ _ => rfl)) (fun hHeld => ?_)
 rw [HWD.out] at hHeld ⊢
 refine tw 0 rfl (by intro w hSw; (try dsimp only at hSw); (have c := (World.cell?_of_block (w := wd) (a := ⟨gd, 0, none⟩) (hSw gd L2.out N2.out)).trans C2.out); clear hSw; go_simp; (try with_reducible rfl)) ?_
 simp only [pR]
 refine tk 1 ?_
 simp only [pR]
 refine tk 2 ?_
 simp only [pR]
 refine tw 3 rfl (by intro w hSw; (try dsimp only at hSw); (have c := (World.cell?_of_block (w := wd) (a := ⟨d, 1, none⟩) (hSw d LD.out HDM.out)).trans CM.out); clear hSw; go_simp; (try with_reducible rfl)) ?_
 simp only [pR]
 refine tw 4 rfl (by intro w hSw; (try dsimp only at hSw); (have c := (World.cell?_of_block (w := wd) (a := ⟨gi, 0, none⟩) (hSw gi L3.out N3.out)).trans C3.out); clear hSw; go_simp; (try with_reducible rfl)) ?_
 simp only [pR]
 refine tw 5 rfl (by intro w hSw; (try dsimp only at hSw); (have c := (World.cell?_of_block (w := wd) (a := ⟨gb, 0, none⟩) (hSw gb L1.out N1.out)).trans C1.out); clear hSw; go_simp; (try with_reducible rfl)) ?_
 simp only [pR]
 refine tw 6 rfl (by intro w hSw; (try dsimp only at hSw); (have c := run_arrayAt64 w (some ⟨ba, oa, none⟩) 64 c (Nat.le_refl _)); clear hSw; go_simp; (try with_reducible rfl)) ?_
 simp only [pR]
 refine tl 7 (.agg (List.toArray (b.map bval))) rfl (yieldsIf_load_mid (by rfl) 86 _ rfl ba oa rfl (b.map bval) _ ((fun w h j v hv => (World.cell?_of_block (w := wd) (h ba LB.out HNB.out)).trans (HR.out j v hv))) hu rfl HSZ.out) ?_
 simp only [pR]
 refine rd1 8 (fun K hK => ?_)
 rw [if_pos (by rfl)]
 refine wp_mapUpdate_run 57 _ _ _ rfl rfl rfl rfl HRUN.out ?_
 refine hK.out _ _ (fun b' hb hne => HG5.out.block b' hb hne) (fun hHeld => ?_)
 clear hK K
 refine wpAnyH_done (by kernel_rfl) ?_ _
 have HP5 := qH ((H.out.kept (R := fun _ => False) (w' := wd) (by rw [← HWD.out]; exact (Keep.refl _ _).drew) (fun _ _ h => h)).cached HG5.out HK.out HB64.out HM5.out)
 have KW : Hid (Keep F w wd) := by rw [← HWD.out]; exact (Keep.refl _ _).drew
 clear hHeld
 go_wp2_with fail
 refine bodyPost_end (results_none rfl _ _ _) rfl ⟨rfl, ⟨fb, mb, stv, HP5.out⟩, KW.out.trans (HG5.out.more (fun k h => by rw [h]; exact H.out.fm))⟩
theorem dFlush1 (d : Nat) (F : Nat → Prop) (s : DS) (w : World) (gd : Nat) (h : DkAt w d F s) (h2 : w.cell? ⟨gd, 0, none⟩ = some (.pointer (some ⟨d, 0, none⟩))) :
  Calls Tryz.prog 52 #[.pointer (some ⟨gd, 0, none⟩)] w (ActOf w d F ⟨fallL (fun _ => true) 0 s.L, s.up, s.left, s.stay⟩) := by
 obtain ⟨fb, mb, stv, hP⟩ := h
 have H := qH hP
 have HC := qH (dSettle d fb mb stv F s w hP _ _ _ _ (StaysOf.all w) (fun _ h => h.elim))
 clear hP
 go_enter Tryz.func52, Tryz.ntmps52
 go_wp2_with fail
 refine (HC.out).mono ?_
 rintro e w1 ⟨rfl, hp, hk⟩
 have H2 := qH hp
 have K2 := qH hk
 clear hp hk
 go_wp2_with fail
 refine bodyPost_end (results_none rfl _ _ _) rfl ⟨rfl, ⟨fb, mb, stv, H2.out⟩, K2.out.more (fun k h => by rcases h with rfl | rfl; exact H.out.ff; exact H.out.fm)⟩
theorem box_cell (w : World) (v : Value) (T : TypeId) : (w.alloc (.cells #[v] T)).cell? ⟨w.heap.size, 0, none⟩ = some v := by
 have h := cell_one_new w v T 0 v rfl
 rw [Addr.add_mid] at h
 exact h
theorem DkTo.after {w0 w w' : World} {d : Nat} {F : Nat → Prop} {r : Int × DS} {e : Ending} (hb : Below w0.heap.size w0 w) (h : DkTo w d F r e w') : DkTo w0 d F r e w' := by
 obtain ⟨he, F', h1, h2, h3⟩ := h
 exact ⟨he, F', h1, fun k hf => (h2 k hf).imp id (Nat.le_trans hb.size), (Keep.of_below hb).trans h3⟩
theorem DkTo.is {w w' : World} {d : Nat} {F : Nat → Prop} {r r' : Int × DS} {e : Ending} (h : DkTo w d F r e w') (hr : r = r') : DkTo w d F r' e w' := hr ▸ h
theorem dFlush (d : Nat) (F : Nat → Prop) (s : DS) (w : World) (h : DkAt w d F s) : Calls Tryz.prog 30 #[.pointer (some ⟨d, 0, none⟩)] w (DkTo w d F s.flush) := by
 have HB : Hid (Below w.heap.size w (w.alloc (.cells #[.pointer (some ⟨d, 0, none⟩)] 24))) := (Below.refl _ _).alloc (Nat.le_refl _) _
 have H1 := qH (h.to HB.out)
 have HST := qH (dState d F s _ H1.out)
 have HLT := qH h.lt
 have HD : Hid ((w.alloc (.cells #[.pointer (some ⟨d, 0, none⟩)] 24)).cell? ⟨w.heap.size, 0, none⟩ = some (.pointer (some ⟨d, 0, none⟩))) := box_cell w _ _
 have HG : Hid (w.heap.size < (w.alloc (.cells #[.pointer (some ⟨d, 0, none⟩)] 24)).heap.size) := by show _ < _; simp
 have H := qH h
 have hci := enters_of Tryz.func52 (by kernel_rfl) rfl
 clear h
 go_enter Tryz.func30, Tryz.ntmps30
 go_wp2_with fail
 refine (HST.out).mono ?_
 rintro e w1 ⟨rfl, rfl⟩
 cases hu : s.up
 ·have HU := qH hu
  clear hu
  go_wp2_with fail
  go_ret
  rw [DS.flush, HU.out, if_pos rfl]
  exact (DkTo.same H1.out).after HB.out
 ·have HU := qH hu
  clear hu
  go_wp2_with fail
  generalize w.alloc (.cells #[.pointer (some ⟨d, 0, none⟩)] 24) = w0 at *
  replace H1 : Hid (DkAt w0.drew d F s) := H1.out.kept (R := fun _ => False) (Keep.refl _ _).drew (fun _ _ h => h)
  replace HD : Hid (w0.drew.cell? ⟨w.heap.size, 0, none⟩ = some (.pointer (some ⟨d, 0, none⟩))) := HD.out
  replace HB := qH HB.out.drew
  replace HG : Hid (w.heap.size < w0.drew.heap.size) := HG.out
  clear HST
  generalize hwd : w0.drew = wd at *
  have HWD := qH hwd
  clear hwd
  have HOP := qH (dOperate d F s s.settled wd H1.out 52 #[.pointer (some ⟨w.heap.size, 0, none⟩)] hci (fun hne w1 hk hd =>
   dFlush1 d F _ w1 w.heap.size hd ((hk.cell (a := ⟨w.heap.size, 0, none⟩) HG.out (fun e => by have h1 := HLT.out d H1.out.fd; have h2 : w.heap.size = d := e; omega)).trans HD.out)))
  have HFL : Hid ((if s.left = 1 then ((60 : Int), s.fall (selB s.stay)) else (0, s.settled)) = s.flush) := by show _ = _; unfold DS.flush; rw [if_neg (c := s.up = false) (by rw [HU.out]; decide)]
  have HO2 := qH (HOP.out.mono (fun e w' h => (DkSt.to h).is HFL.out))
  clear HOP HFL
  refine wp_region_held_drew (S := (fun w' => w'.cell? ⟨w.heap.size, 0, none⟩ = some (.pointer (some ⟨d, 0, none⟩)))) (by kernel_rfl) ((by rw [HWD.out]; exact HD.out)) (fun hHeld => ?_)
  rw [HWD.out] at hHeld ⊢
  refine tk 0 ?_
  simp only [pR]
  refine tk 1 ?_
  simp only [pR]
  refine tk 2 ?_
  simp only [pR]
  refine tk 3 ?_
  simp only [pR]
  refine tk 4 ?_
  simp only [pR]
  refine tk 5 ?_
  simp only [pR]
  refine rd1 6 (fun K hK => ?_)
  go_simp
  refine (HO2.out).mono ?_
  rintro e w6 ⟨rfl, F', hd, hf, hk⟩
  have D6 := qH hd
  have F6 := qH hf
  have K6 := qH hk
  clear hd hf hk
  go_wp2_with fail
  refine hK.out _ _ (((K6.out.cell (a := ⟨w.heap.size, 0, none⟩) HG.out (fun e => absurd (HLT.out _ e) (Nat.lt_irrefl _))).trans HD.out)) (fun hHeld => ?_)
  clear hK K
  refine tk 7 ?_
  simp only [pR]
  refine wpAnyH_done (by kernel_rfl) ?_ _
  go_wp2_with fail
  go_ret
  exact ⟨rfl, F', D6.out, fun k hk => (F6.out k hk).imp id (Nat.le_trans HB.out.size), (Keep.of_below HB.out).trans K6.out⟩
theorem dWriteS (d : Nat) (F : Nat → Prop) (s : DS) (i : Int) (A : Option Addr) (n c : Nat) (b : List UInt8) (w : World) (h : DkAt w d F s) (hr : Rd w w.heap.size A n b) (ho : Off A n F) :
  Calls Tryz.prog 27 #[.pointer (some ⟨d, 0, none⟩), .int .i64 i, .slice A n c] w (DkSt w d F (s.write i b)) := by
 obtain ⟨w1, hw1⟩ : ∃ w1, w.alloc (.cells #[.pointer (some ⟨d, 0, none⟩)] 24) = w1 := ⟨_, rfl⟩
 obtain ⟨w2, hw2⟩ : ∃ w2, w1.alloc (.cells #[.int .i64 i] 3) = w2 := ⟨_, rfl⟩
 obtain ⟨w3, hw3⟩ : ∃ w3, w2.alloc (.cells #[.slice A n c] 35) = w3 := ⟨_, rfl⟩
 have B1 : Below w.heap.size w w1 := by rw [← hw1]; exact (Below.refl _ _).alloc (Nat.le_refl _) _
 have B2 : Below w1.heap.size w1 w2 := by rw [← hw2]; exact (Below.refl _ _).alloc (Nat.le_refl _) _
 have B3 : Below w2.heap.size w2 w3 := by rw [← hw3]; exact (Below.refl _ _).alloc (Nat.le_refl _) _
 have e1 : w1.heap.size = w.heap.size + 1 := by rw [← hw1]; simp
 have e2 : w2.heap.size = w.heap.size + 1 + 1 := by rw [← hw2]; simp [e1]
 have e3 : w3.heap.size = w.heap.size + 1 + 1 + 1 := by rw [← hw3]; simp [e2]
 have D1 : w1.cell? ⟨w.heap.size, 0, none⟩ = some (.pointer (some ⟨d, 0, none⟩)) := by rw [← hw1]; exact box_cell _ _ _
 have D2 : w2.cell? ⟨w1.heap.size, 0, none⟩ = some (.int .i64 i) := by rw [← hw2]; exact box_cell _ _ _
 have D3 : w3.cell? ⟨w2.heap.size, 0, none⟩ = some (.slice A n c) := by rw [← hw3]; exact box_cell _ _ _
 have HB : Hid (Below w.heap.size w w3) := (B1.trans (B2.mono B1.size)).trans (B3.mono (Nat.le_trans B1.size B2.size))
 have C1 : Hid (w3.cell? ⟨w.heap.size, 0, none⟩ = some (.pointer (some ⟨d, 0, none⟩))) := (((B2.trans (B3.mono B2.size)).cell (p := ⟨w.heap.size, 0, none⟩) (by show w.heap.size < w1.heap.size; omega)).trans D1)
 have C2 : Hid (w3.cell? ⟨w.heap.size + 1, 0, none⟩ = some (.int .i64 i)) := by
  have := (B3.cell (p := ⟨w1.heap.size, 0, none⟩) (by show w1.heap.size < w2.heap.size; omega)).trans D2
  rw [e1] at this
  exact this
 have C3 : Hid (w3.cell? ⟨w.heap.size + 1 + 1, 0, none⟩ = some (.slice A n c)) := by rw [e2] at D3; exact D3
 have HE : Hid (((w.alloc (.cells #[.pointer (some ⟨d, 0, none⟩)] 24)).alloc (.cells #[.int .i64 i] 3)).alloc (.cells #[.slice A n c] 35) = w3) := by show _ = _; rw [hw1, hw2, hw3]
 have HSZ : Hid (w3.heap.size = w.heap.size + 1 + 1 + 1) := e3
 have H := qH (h.to HB.out)
 have HLT := qH h.lt
 have R := qH (hr.to HB.out)
 have OF := qH ho
 clear B1 B2 B3 e1 e2 e3 D1 D2 D3 hw1 hw2 hw3 h hr ho
 have HST := qH (dState d F s _ H.out)
 have HHS := qH (dHas d F s i _ H.out)
 have hci := enters_of Tryz.func50 (by kernel_rfl) rfl
 go_enter Tryz.func27, Tryz.ntmps27
 go_wp2_with fail
 rw [HE.out]
 clear HE
 have c1 := C1.out
 have c2 := C2.out
 have c3 := C3.out
 refine (HST.out).mono ?_
 rintro e w4 ⟨rfl, rfl⟩
 cases hu : s.up
 ·have HU := qH hu
  clear hu
  go_wp2_with fail
  go_ret
  rw [DS.write, HU.out, if_pos rfl]
  exact (DkSt.same H.out).after HB.out
 have HU := qH hu
 clear hu
 go_wp2_with fail
 refine (HHS.out).mono ?_
 rintro e w4 ⟨rfl, rfl⟩
 cases hh : s.has i
 ·have HH := qH hh
  clear hh
  go_wp2_with fail
  go_ret
  rw [DS.write, HU.out, if_neg (by decide), HH.out, if_pos rfl]
  exact (DkSt.same H.out).after HB.out
 have HH := qH hh
 have hz : 0 ≤ i ∧ i < (s.L.length : Int) := by simpa [DS.has] using hh
 clear hh
 have HN := qH R.out.1
 by_cases h64 : n = 64
 ·subst h64
  obtain ⟨k, rfl⟩ : ∃ k : Nat, i = (k : Int) := ⟨i.toNat, by omega⟩
  have HK : Hid (k < s.L.length) := by show _ < _; omega
  clear hz
  go_wp2_with fail
  replace H : Hid (DkAt w3.drew d F s) := H.out.kept (R := fun _ => False) (Keep.refl _ _).drew (fun _ _ h => h)
  replace C1 : Hid (w3.drew.cell? ⟨w.heap.size, 0, none⟩ = some (.pointer (some ⟨d, 0, none⟩))) := C1.out
  replace C2 : Hid (w3.drew.cell? ⟨w.heap.size + 1, 0, none⟩ = some (.int .i64 (k : Int))) := C2.out
  replace C3 : Hid (w3.drew.cell? ⟨w.heap.size + 1 + 1, 0, none⟩ = some (.slice A 64 c)) := C3.out
  replace R := qH R.out.drew'
  replace HB := qH HB.out.drew
  replace HSZ : Hid (w3.drew.heap.size = w.heap.size + 1 + 1 + 1) := HSZ.out
  clear HST HHS c1 c2 c3
  generalize hwd : w3.drew = wd at *
  have HWD := qH hwd
  clear hwd
  have HFG : Hid (∀ k, w.heap.size ≤ k → ¬ F k) := fun k hk hf => by have := HLT.out k hf; omega
  have HOP := qH (dOperate d F s (s.put k b) wd H.out 50 #[.pointer (some ⟨w.heap.size + 1 + 1, 0, none⟩), .pointer (some ⟨w.heap.size, 0, none⟩), .pointer (some ⟨w.heap.size + 1, 0, none⟩)] hci (fun hne w1 hk hd =>
   dWrite1 d F _ k A c b w1 (w.heap.size + 1 + 1) w.heap.size (w.heap.size + 1) hd HK.out (R.out.kept hk (fun hn bb o e hbb => OF.out hn bb o e (by rw [show bb = d from hbb]; exact H.out.fd))) OF.out
    ((hk.cell (a := ⟨w.heap.size + 1 + 1, 0, none⟩) (by show w.heap.size + 1 + 1 < _; rw [HSZ.out]; omega) (fun e => HFG.out (w.heap.size + 1 + 1) (by omega) (by rw [show w.heap.size + 1 + 1 = d from e]; exact H.out.fd))).trans C3.out)
    ((hk.cell (a := ⟨w.heap.size, 0, none⟩) (by show w.heap.size < _; rw [HSZ.out]; omega) (fun e => HFG.out w.heap.size (by omega) (by rw [show w.heap.size = d from e]; exact H.out.fd))).trans C1.out)
    ((hk.cell (a := ⟨w.heap.size + 1, 0, none⟩) (by show w.heap.size + 1 < _; rw [HSZ.out]; omega) (fun e => HFG.out (w.heap.size + 1) (by omega) (by rw [show w.heap.size + 1 = d from e]; exact H.out.fd))).trans C2.out)
    (HFG.out _ (by omega)) (HFG.out _ (by omega)) (HFG.out _ (by omega))))
  have HFL : Hid ((if s.left = 1 then ((60 : Int), s.fall (selB s.stay)) else (0, s.put k b)) = s.write (k : Int) b) := by
   show _ = _
   unfold DS.write
   rw [if_neg (c := s.up = false) (by rw [HU.out]; decide), if_neg (c := s.has (k : Int) = false) (by rw [HH.out]; decide), if_neg (c := b.length ≠ 64) (by rw [HN.out]; decide), Int.toNat_natCast]
  have HO2 := qH (HOP.out.mono (fun e w' h => h.is HFL.out))
  clear HOP HFL
  have HG : Hid (w.heap.size < wd.heap.size) := by show _ < _; rw [HSZ.out]; omega
  refine wp_region_held_drew (S := (fun w' => w'.cell? ⟨w.heap.size, 0, none⟩ = some (.pointer (some ⟨d, 0, none⟩)) ∧ True)) (by kernel_rfl) ((by rw [HWD.out]; exact ⟨C1.out, trivial⟩)) (fun hHeld => ?_)
  rw [HWD.out] at hHeld ⊢
  refine tw 0 rfl (by intro w hSw; (try dsimp only at hSw); (have c := hSw.1); clear hSw; go_simp; (try with_reducible rfl)) ?_
  simp only [pR]
  refine tw 1 rfl (by intro w hSw; (try dsimp only at hSw); (have c := hSw.1); clear hSw; go_simp; (try with_reducible rfl)) ?_
  simp only [pR]
  refine tk 2 ?_
  simp only [pR]
  refine tk 3 ?_
  simp only [pR]
  refine tk 4 ?_
  simp only [pR]
  refine tk 5 ?_
  simp only [pR]
  refine rd1 6 (fun K hK => ?_)
  go_simp
  refine (HO2.out).mono ?_
  rintro e w6 ⟨rfl, hd, hk⟩
  have D6 := qH hd
  have K6 := qH hk
  clear hd hk
  go_wp2_with fail
  refine hK.out _ _ (⟨(K6.out.cell (a := ⟨w.heap.size, 0, none⟩) HG.out (HFG.out _ (Nat.le_refl _))).trans C1.out, trivial⟩) (fun hHeld => ?_)
  clear hK K
  refine tk 7 ?_
  simp only [pR]
  refine wpAnyH_done (by kernel_rfl) ?_ _
  go_wp2_with fail
  go_ret
  exact ⟨rfl, D6.out, (Keep.of_below HB.out).trans K6.out⟩
 ·have HN64 : Hid (¬ n = 64) := h64
  have hn64 : ¬ (n : Int) = 64 := by omega
  clear h64
  go_wp2_with fail
  go_ret
  rw [DS.write, HU.out, if_neg (by decide), HH.out, if_neg (by decide), if_pos (by rw [HN.out]; exact HN64.out)]
  exact (DkSt.same H.out).after HB.out
theorem dWrite (d : Nat) (F : Nat → Prop) (s : DS) (i : Int) (A : Option Addr) (n c : Nat) (b : List UInt8) (w : World) (h : DkAt w d F s) (hr : Rd w w.heap.size A n b) (ho : Off A n F) :
  Calls Tryz.prog 27 #[.pointer (some ⟨d, 0, none⟩), .int .i64 i, .slice A n c] w (DkTo w d F (s.write i b)) := (dWriteS d F s i A n c b w h hr ho).mono fun e w' h => DkSt.to h
end
section
open Go.RowKit
theorem dReadNo (p : Value) (i : Int) (w : World) (h : DkNo w p) : Calls Tryz.prog 18 #[p, .int .i64 i] w fun e w' => e = .returned (.tuple #[.slice none 0 0, .int .i64 1]) ∧ w = w' := by
 have H := qH (dStateNo p w h)
 clear h
 go_enter Tryz.func18, Tryz.ntmps18
 go_wp2_with fail
 refine (H.out).mono ?_
 rintro e w1 ⟨rfl, rfl⟩
 go_wp2_with fail
 go_ret2
 exact ⟨rfl, rfl⟩
theorem dCrashNo (p : Value) (A : Option Addr) (n c : Nat) (w : World) (h : DkNo w p) : Calls Tryz.prog 32 #[p, .slice A n c] w fun e w' => e = .returned (.int .i64 1) ∧ w = w' := by
 have H := qH (dStateNo p w h)
 clear h
 go_enter Tryz.func32, Tryz.ntmps32
 go_wp2_with fail
 refine (H.out).mono ?_
 rintro e w1 ⟨rfl, rfl⟩
 go_wp2_with fail
 go_ret
 exact ⟨rfl, rfl⟩
theorem dArmNo (p : Value) (i : Int) (A : Option Addr) (n c : Nat) (w : World) (h : DkNo w p) : Calls Tryz.prog 25 #[p, .int .i64 i, .slice A n c] w fun e w' => e = .returned (.int .i64 1) ∧ w = w' := by
 have H := qH (dStateNo p w h)
 clear h
 go_enter Tryz.func25, Tryz.ntmps25
 go_wp2_with fail
 refine (H.out).mono ?_
 rintro e w1 ⟨rfl, rfl⟩
 go_wp2_with fail
 go_ret
 exact ⟨rfl, rfl⟩
theorem dStartNo (p : Value) (w : World) (h : DkNo w p) : Calls Tryz.prog 26 #[p] w fun e w' => e = .returned (.int .i64 1) ∧ w = w' := by
 have H := qH (dStateNo p w h)
 clear h
 go_enter Tryz.func26, Tryz.ntmps26
 go_wp2_with fail
 refine (H.out).mono ?_
 rintro e w1 ⟨rfl, rfl⟩
 go_wp2_with fail
 go_ret
 exact ⟨rfl, rfl⟩
theorem dFlushNo (p : Value) (w : World) (h : DkNo w p) : Calls Tryz.prog 30 #[p] w fun e w' => e = .returned (.int .i64 1) ∧ Below w.heap.size w w' := by
 have HB : Hid (Below w.heap.size w (w.alloc (.cells #[p] 24))) := (Below.refl _ _).alloc (Nat.le_refl _) _
 have H := qH (dStateNo p _ (h.to HB.out))
 have c1 := box_cell w p 24
 have HP := qH h
 clear h
 cases HP.out with
 | none =>
  go_enter Tryz.func30, Tryz.ntmps30
  go_wp2_with fail
  refine (H.out).mono ?_
  rintro e w1 ⟨rfl, rfl⟩
  go_wp2_with fail
  go_ret
  exact ⟨rfl, HB.out⟩
 | fresh d hd =>
  go_enter Tryz.func30, Tryz.ntmps30
  go_wp2_with fail
  refine (H.out).mono ?_
  rintro e w1 ⟨rfl, rfl⟩
  go_wp2_with fail
  go_ret
  exact ⟨rfl, HB.out⟩
theorem dWriteNo (p : Value) (i : Int) (A : Option Addr) (n c : Nat) (w : World) (h : DkNo w p) : Calls Tryz.prog 27 #[p, .int .i64 i, .slice A n c] w fun e w' => e = .returned (.int .i64 1) ∧ Below w.heap.size w w' := by
 have HB : Hid (Below w.heap.size w (((w.alloc (.cells #[p] 24)).alloc (.cells #[.int .i64 i] 3)).alloc (.cells #[.slice A n c] 35))) := (((Below.refl _ _).alloc (Nat.le_refl _) _).alloc (by simp) _).alloc (by simp; omega) _
 have H := qH (dStateNo p _ (h.to HB.out))
 have HP := qH h
 clear h
 cases HP.out with
 | none =>
  go_enter Tryz.func27, Tryz.ntmps27
  go_wp2_with fail
  refine (H.out).mono ?_
  rintro e w1 ⟨rfl, rfl⟩
  go_wp2_with fail
  go_ret
  exact ⟨rfl, HB.out⟩
 | fresh d hd =>
  go_enter Tryz.func27, Tryz.ntmps27
  go_wp2_with fail
  refine (H.out).mono ?_
  rintro e w1 ⟨rfl, rfl⟩
  go_wp2_with fail
  go_ret
  exact ⟨rfl, HB.out⟩
theorem secs_bytes : (Tryz.prog.info? 86).map (fun i => (i.zero, i.size, i.bytes)) = some (some (.agg (Array.replicate 64 (.int .u8 0))), 64, 64) := by kernel_rfl
theorem dNewBad (n : Int) (w : World) (h : n < 1 ∨ 1024 < n) : Calls Tryz.prog 10 #[.int .i64 n] w fun e w' => e = .returned (.tuple #[.pointer none, .int .i64 2]) ∧ w = w' := by
 go_enter Tryz.func10, Tryz.ntmps10
 by_cases h1 : n < 1
 ·go_wp2_with fail
  go_ret2
  exact ⟨rfl, rfl⟩
 ·have h2 : n > 1024 := by omega
  clear h
  go_wp2_with fail
  go_ret2
  exact ⟨rfl, rfl⟩
theorem made_at (n j : Nat) (h : j < n * 64) : (madeCells (Value.agg (Array.replicate 64 (.int .u8 0))).cells (n * 64)).toList[j]? = some (.int .u8 0) := by
 have hs : (Value.agg (Array.replicate 64 (.int .u8 0))).cells = Array.replicate 64 (.int .u8 0) := rfl
 rw [hs, Array.getElem?_toList, madeCells, Array.getElem?_map]
 have h1 : (Array.range (n * 64))[j]? = some j := by
  rw [Array.getElem?_eq_getElem (by simpa using h)]; simp
 rw [h1]
 simp only [Option.map_some, Array.size_replicate]
 have hm : j % 64 < 64 := Nat.mod_lt _ (by decide)
 rw [getElem!_pos _ _ (by simpa using hm)]
 simp
theorem secs_made {w w1 : World} {T : TypeId} {n : Nat} (h : w1.ownsRow w.heap.size T 64 (.slice (some ⟨w.heap.size, 0, none⟩) n n) n (madeCells (Value.agg (Array.replicate 64 (.int .u8 0))).cells (n * 64)).toList) : SecsAt w1 w.heap.size (List.replicate n sec0) := by
 rcases h.2 with ⟨h, _⟩ | ⟨g, cap, cur, hv, _, hh, _, _, hcs, htk⟩
 ·cases h
 injection hv with hv hc1 hc2
 injection hv with hv; injection hv with hv
 subst hv; subst hc2
 have hcell : ∀ j, j < n * 64 → w1.cell? ⟨w.heap.size, j, none⟩ = some (.int .u8 0) := by
  intro j hj
  rw [cell_of_row w1 _ j cur _ _ hh]
  have := made_at n j hj
  rw [← htk, List.getElem?_take, if_pos hj, Array.getElem?_toList] at this
  exact this
 refine ⟨fun i hi j v hv => ?_, fun j hj => ?_, fun x hx => by obtain ⟨_, rfl⟩ := List.mem_replicate.1 hx; rfl⟩
 ·have hi' : i < n := by simpa using hi
  have e : (List.replicate n sec0).getD i [] = sec0 := by simp [List.getD, hi']
  rw [e] at hv
  have hj : j < 64 := by
   rcases Nat.lt_or_ge j 64 with g | g
   ·exact g
   ·rw [List.getElem?_eq_none (by simpa [sec0] using g)] at hv; cases hv
  rw [hcell (i * 64 + j) (by omega), ← hv, List.getElem?_map]
  have h0 : sec0[j]? = some 0 := by unfold sec0; rw [List.getElem?_replicate, if_pos hj]
  rw [h0]
  rfl
 ·rw [List.length_replicate] at hj
  rw [Nat.zero_add]
  exact ⟨by rw [hcell j hj]; rfl, by simp [World.frozen?, hh]⟩
theorem dNew (n : Nat) (w : World) (h1 : 1 ≤ n) (h2 : n ≤ 1024) : Calls Tryz.prog 10 #[.int .i64 (n : Int)] w fun e w' => ∃ d, e = .returned (.tuple #[.pointer (some ⟨d, 0, none⟩), .int .i64 0]) ∧ ∃ F, DkAt w' d F (DS.new n) ∧ (∀ k, F k → w.heap.size ≤ k) ∧ Below w.heap.size w w' := by
 obtain ⟨i0, hi, hz0, hz1, hz2⟩ := info_parts secs_bytes
 have g1 : ¬ (n : Int) < 1 := by omega
 have g2 : ¬ (n : Int) > 1024 := by omega
 have HI := qH hi
 have HZ0 := qH hz0
 have HZ1 := qH hz1
 have HZ2 := qH hz2
 have HN1 : Hid (n ≤ 1024) := h2
 clear hi hz0 hz1 hz2 h1 h2
 have hmm := @run_makeMap Tryz.prog
 go_enter Tryz.func10, Tryz.ntmps10
 go_wp2_with (refine wpList_make_full w rfl (.tmp 10) (.tmp 10) 56 rfl w.heap.size 86 i0 (.agg (Array.replicate 64 (.int .u8 0))) 64 Tryz.underlying56 HI.out HZ0.out HZ1.out .i64 .i64 (n : Int) (n : Int) n rfl rfl rfl rfl (by rw [HZ2.out]; have := HN1.out; omega) (by unfold maxLen; have := HN1.out; omega) (Nat.le_refl _) ?_; intro w1 hown1 hgr1)
 have B1 := qH ((Below.refl w.heap.size w).grown hgr1 (Nat.le_refl _) (fun k hk => by cases hk))
 have S1 := qH (secs_made hown1)
 have HL1 : Hid (w.heap.size < w1.heap.size) := by
  rcases hown1.2 with ⟨h, _⟩ | ⟨g, cap, cur, hv, _, hh, _⟩
  ·cases h
  ·injection hv with hv; injection hv with hv; injection hv with hv
   show _ < _
   rw [hv]; exact heap_at_lt hh
 clear hown1 hgr1
 go_ret2
 refine ⟨w1.heap.size + 1, rfl, fun k => k = w.heap.size ∨ k = w1.heap.size ∨ k = w1.heap.size + 1, ⟨w.heap.size, w1.heap.size, Value.nilFunc, ?_⟩, fun k hk => (by have := HL1.out; rcases hk with rfl | rfl | rfl <;> omega), (B1.out.alloc (Nat.le_of_lt HL1.out) _).alloc (by simp; have := HL1.out; omega) _⟩
 have BA : Below w1.heap.size w1 (w1.alloc (.map #[] 0)) := (Below.refl _ _).alloc (Nat.le_refl _) _
 have BB : ∀ o, Below (w1.heap.size + 1) (w1.alloc (.map #[] 0)) ((w1.alloc (.map #[] 0)).alloc o) := fun o => (Below.refl _ _).alloc (by simp) _
 have hne := HL1.out
 refine ⟨?_, ?_, ?_, fun h => absurd rfl h, rfl, .inr (.inr rfl), .inl rfl, .inr (.inl rfl), by omega, by omega, by omega, fun k hk => (by simp; rcases hk with rfl | rfl | rfl <;> omega), DS.ok.new HN1.out⟩
 ·have h := heap_alloc_last (w1.alloc (.map #[] 0)) (.cells (dkCells w.heap.size w1.heap.size n true 0 Value.nilFunc) 62)
  have e : (w1.alloc (.map #[] 0)).heap.size = w1.heap.size + 1 := by simp
  rw [e] at h
  have e2 : (DS.new n).L.length = n := by simp [DS.new]
  rw [e2]
  exact h
 ·have e : (DS.new n).L.map (·.1) = List.replicate n sec0 := by simp [DS.new]
  rw [e]
  exact (S1.out.block (BA.block w.heap.size hne)).block ((BB _).block w.heap.size (by omega))
 ·exact (MapIs.made w1 (fun x hx => by obtain ⟨_, rfl⟩ := List.mem_replicate.1 hx; rfl)).block ((BB _).block w1.heap.size (by omega))
end
end Go.Proofs.YtffdjnhhmfpkgaaGreat