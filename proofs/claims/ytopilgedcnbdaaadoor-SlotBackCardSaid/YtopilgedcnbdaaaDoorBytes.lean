/- Contracts of bytes.Equal, bytes.Compare and of the program's Same, Ahead, Cat (words). -/
import Derived.Test.YtopilgedcnbdaaaDoorTz
import Derived.Test.YtopilgedcnbdaaaDoorRefA
import Derived.Laws.BytesArg
import Derived.Laws.BytesString
import Derived.Lib.BytesEntry
import Derived.Lib.Bytealg
namespace Go.Proofs.YtopilgedcnbdaaaDoor
set_option maxRecDepth 1000000
set_option maxHeartbeats 8000000
open Go.RowKit
set_option linter.unusedVariables false
def numsOf (bs : List UInt8) : List Int := bs.map fun b => (b.toNat : Int)
theorem bytesOf_numsOf (bs : List UInt8) : Lib.bytesOf (numsOf bs) = bs := by
 unfold Lib.bytesOf numsOf
 rw [List.map_map]
 have : ((fun n : Int => UInt8.ofNat n.toNat) ∘ fun b : UInt8 => (b.toNat : Int)) = id := by funext b; simp
 rw [this, List.map_id]
theorem Rd.conv {P : Program} {w : World} {B n : Nat} {A : Option Addr} {bs : List UInt8} (h : Rd w B A n bs) (c : Nat) (src e dst : TypeId) (hs : P.underlying src = some (.slice e)) (he : P.underlying e = some (.int .u8)) (hd : P.underlying dst = some .string) :
  (convert src dst (.slice A n c)).run P w = .ok (.string (strOfNums (numsOf bs))) w := by
 rcases Nat.eq_zero_or_pos n with rfl | hn
 ·obtain rfl : bs = [] := List.eq_nil_of_length_eq_zero h.1
  rw [run_convert_bytes_string w src dst e _ 0 c hs he hd]
  cases A <;> simp [Conv.bytesToString, loadCells, numsOf] <;> rfl
 ·obtain ⟨b, o, rfl, _, hc⟩ := h.2 hn
  refine run_convert_bytes_arg (P := P) w src e hs he b o n c (numsOf bs) (by simp [numsOf, h.1]) (fun i hi => ?_) dst hd
  have hl : i < bs.length := by rw [h.1]; exact hi
  rw [hc i hi, nth_of_lt hl]
  simp [numsOf, List.getD, List.getElem?_eq_getElem hl]
theorem bEqual (A A' : Option Addr) (n m c d B : Nat) (xs ys : List UInt8) (w : World) (ha : Rd w B A n xs) (hb : Rd w B A' m ys) :
  Calls Tryd.prog 22 #[.slice A n c, .slice A' m d] w fun e w' => e = .returned (.bool (decide (xs = ys))) ∧ w = w' := by
 have h1 := ha.conv c 22 5 9 Tryd.underlying22 Tryd.underlying5 Tryd.underlying9
 have h2 := hb.conv d 22 5 9 Tryd.underlying22 Tryd.underlying5 Tryd.underlying9
 have e1 : (strOfNums (numsOf xs)).toList = xs := by rw [Lib.strOfNums_toList, bytesOf_numsOf]
 have e2 : (strOfNums (numsOf ys)).toList = ys := by rw [Lib.strOfNums_toList, bytesOf_numsOf]
 generalize strOfNums (numsOf xs) = s1 at *
 generalize strOfNums (numsOf ys) = s2 at *
 have E1 := qH e1
 have E2 := qH e2
 clear e1 e2 ha hb
 go_enter Tryd.func22, Tryd.ntmps22
 go_wp2
 go_ret
 refine ⟨ret_bool ?_, rfl⟩
 rw [E1.out, E2.out]
 rw [Bool.eq_iff_iff]; simp
theorem wSame (A A' : Option Addr) (n m c d B : Nat) (xs ys : List UInt8) (w : World) (ha : Rd w B A n xs) (hb : Rd w B A' m ys) :
  Calls Tryd.prog 12 #[.slice A n c, .slice A' m d] w fun e w' => e = .returned (.bool (decide (xs = ys))) ∧ w = w' := by
 have HA := qH ha
 have HB := qH hb
 clear ha hb
 go_enter Tryd.func12, Tryd.ntmps12
 go_wp2_with fail
 refine (bEqual A A' n m c d B xs ys _ HA.out HB.out).mono ?_
 rintro e w1 ⟨rfl, rfl⟩
 go_wp2
 go_ret
 exact ⟨rfl, rfl⟩
theorem ord_eq : ∀ a b : List UInt8, Lib.compareBytes a b = ord a b
 | [], [] => rfl
 | [], _ :: _ => rfl
 | _ :: _, [] => rfl
 | a :: xs, b :: ys => by simp [Lib.compareBytes, ord, ord_eq xs ys]
theorem run_bytesOf {P : Program} {w : World} {B n c : Nat} {A : Option Addr} {bs : List UInt8} (h : Rd w B A n bs) :
  (Extern.Bytes.bytesOf (.slice A n c)).run P w = .ok ⟨bs.toArray⟩ w := by
 rcases A with _ | ad
 ·obtain rfl : n = 0 := by
   rcases Nat.eq_zero_or_pos n with h0 | h0
   ·exact h0
   ·obtain ⟨_, _, e, _⟩ := h.2 h0; cases e
  obtain rfl : bs = [] := List.eq_nil_of_length_eq_zero h.1
  rfl
 ·have hl : (numsOf bs).length = n := by simp [numsOf, h.1]
  have := Lib.run_loadBytesX (P := P) w (numsOf bs) ad .empty (fun j x hj => by
   have hjn : j < n := by
    rcases Nat.lt_or_ge j n with g | g
    ·exact g
    ·rw [List.getElem?_eq_none (by omega)] at hj; cases hj
   obtain ⟨b, o, e, _, hc⟩ := h.2 (by omega)
   obtain rfl : ad = ⟨b, o, none⟩ := by injection e
   have e : (⟨b, o, none⟩ : Addr).add j = ⟨b, o + j, none⟩ := by unfold Addr.add; split <;> simp_all
   have hjl : j < bs.length := by rw [h.1]; exact hjn
   rw [e, hc j hjn, nth_of_lt hjl]
   simp only [numsOf, List.getElem?_map, List.getElem?_eq_getElem hjl, Option.map_some, Option.some.injEq] at hj
   rw [hj])
  rw [hl, bytesOf_numsOf] at this
  have e : (ByteArray.empty.data ++ bs.toArray) = bs.toArray := by simp
  rw [e] at this
  exact this
def RdS (w : World) (B : Nat) (A : Option Addr) (n : Nat) (bss : List (List UInt8)) : Prop :=
 bss.length = n ∧ (0 < n → ∃ b o, A = some ⟨b, o, none⟩ ∧ b < B ∧ ∀ j, j < n → ∃ A' m c, w.cell? ⟨b, o + j, none⟩ = some (.slice A' m c) ∧ Rd w B A' m (bss.getD j []))
def tot (bss : List (List UInt8)) (k : Nat) : Nat := (bss.take k).flatten.length
theorem take_snoc_rows {bss : List (List UInt8)} {k : Nat} (h : k < bss.length) : (bss.take (k + 1)).flatten = (bss.take k).flatten ++ bss.getD k [] := by
 rw [List.take_succ_eq_append_getElem h, List.flatten_append]; simp [List.getD, List.getElem?_eq_getElem h]
theorem tot_succ {bss : List (List UInt8)} {k : Nat} (h : k < bss.length) : tot bss (k + 1) = tot bss k + (bss.getD k []).length := by
 unfold tot; rw [take_snoc_rows h, List.length_append]
theorem tot_le (bss : List (List UInt8)) (k : Nat) : tot bss k ≤ bss.flatten.length := by
 have h : bss.flatten = (bss.take k).flatten ++ (bss.drop k).flatten := by rw [← List.flatten_append, List.take_append_drop]
 unfold tot; rw [h, List.length_append]; omega
theorem tot_mono (bss : List (List UInt8)) {k : Nat} (h : k < bss.length) : tot bss k ≤ tot bss (k + 1) := by rw [tot_succ h]; omega
def SizeRel (n : Nat) (bss : List (List UInt8)) (s i : Value) : Prop :=
 ∃ k : Nat, k ≤ n ∧ i = .int .i64 (k : Int) ∧ s = .int .i64 ((tot bss k : Nat) : Int)
def CatAllRel (B n : Nat) (w : World) (bss : List (List UInt8)) (v i : Value) (wr : World) : Prop :=
 ∃ k : Nat, k ≤ n ∧ i = .int .i64 (k : Int) ∧ wr.ownsRow B 5 1 v (tot bss k) (((bss.take k).flatten).map bval) ∧ Below B w wr
theorem wCat (A : Option Addr) (n c : Nat) (bss : List (List UInt8)) (w : World) (ha : RdS w w.heap.size A n bss) (hn : n ≤ 140737488355328) (ht : bss.flatten.length ≤ 140737488355328) :
  Calls Tryd.prog 18 #[.slice A n c] w fun e w' => RetB 5 w bss.flatten e w' := by
 have HA := qH ha
 clear ha
 go_enter Tryd.func18, Tryd.ntmps18
 go_wp2
 go_loop [3, 11] (fun s i => SizeRel n bss s i) (fun _ i => n - (intOf i).toNat)
 case atStart => exact ⟨0, Nat.zero_le _, rfl, by simp [tot]⟩
 case round =>
  obtain ⟨k, hk, rfl, rfl⟩ := hrel
  by_cases hlt : k < n
  ·obtain ⟨b, o, rfl, hbo, hc⟩ := HA.out.2 (by omega)
   obtain ⟨A', m, c', hcell, hrd⟩ := hc k hlt
   have ht0 : tot bss k ≤ 140737488355328 := Nat.le_trans (tot_le _ _) ht
   have ht1 : tot bss k + m ≤ 140737488355328 := by
    have h := tot_le bss (k + 1)
    rw [tot_succ (by rw [HA.out.1]; exact hlt), hrd.1] at h; omega
   have HT : Hid (tot bss (k + 1) = tot bss k + m) := by
    have := tot_succ (bss := bss) (k := k) (by rw [HA.out.1]; exact hlt)
    rw [hrd.1] at this; exact this
   clear hc hrd
   generalize tot bss k = t0 at *
   go_wp2
   go_round
   case rel => exact ⟨k + 1, by omega, by go_num, by rw [HT.out]; go_num⟩
   case measure => simp [intOf]; omega
  ·obtain rfl : k = n := by omega
   have ht0 : tot bss k ≤ 140737488355328 := Nat.le_trans (tot_le _ _) ht
   generalize htk : tot bss k = t0 at *
   clear htk
   go_wp2_with (at_make; refine wpList_makeB0 isU8 rfl _ _ rfl t0 rfl rfl rfl (by omega) (Below.refl w.heap.size w) (Nat.le_refl _) ?_; intro w0 hown0 hbel0 hsz0)
   go_loopw [6, 24] (fun v i wr => CatAllRel w.heap.size k w bss v i wr) (fun _ i _ => k - (intOf i).toNat)
   case atStart => exact ⟨0, Nat.zero_le _, rfl, by simpa [tot] using hown0, hbel0⟩
   case round =>
    obtain ⟨j, hj, rfl, hown, hbel⟩ := hrel
    have hsz := hbel.size
    by_cases hlt : j < k
    ·obtain ⟨b, o, rfl, hbo, hc⟩ := HA.out.2 (by omega)
     obtain ⟨A', m, c', hcell0, hrd⟩ := hc j hlt
     have hcell : wr.cell? ⟨b, o + j, none⟩ = some (.slice A' m c') := (hbel.cell hbo).trans hcell0
     have ht1 : tot bss j + m ≤ 140737488355328 := by
      have h := tot_le bss (j + 1)
      rw [tot_succ (by rw [HA.out.1]; exact hlt), hrd.1] at h; omega
     have HR := qH (hrd.below hbel)
     have HT : Hid (tot bss (j + 1) = tot bss j + m) := by
      have := tot_succ (bss := bss) (k := j) (by rw [HA.out.1]; exact hlt)
      rw [hrd.1] at this; exact this
     clear hc hrd hcell0
     go_wp2_with (at_builtin; refine wpList_pushAll isU8 rfl _ _ rfl rfl rfl hown HR.out hbel hsz ht1 ?_; intro v1 w1 hown1 hbel1 hsz1)
     go_roundw
     case rel => exact ⟨j + 1, by omega, by go_num, by rw [HT.out, take_snoc_rows (by rw [HA.out.1]; exact hlt)]; exact hown1, hbel1⟩
     case measure => simp [intOf]; omega
    ·obtain rfl : j = k := by omega
     go_wp2
     go_ret
     exact RetB.mk (by rw [List.take_of_length_le (by rw [HA.out.1]; exact Nat.le_refl _)] at hown; exact hown) hbel
theorem RdS.lit {w : World} (vs : List Value) (T : TypeId) (bss : List (List UInt8)) (hl : bss.length = vs.length)
  (h : ∀ j, j < vs.length → ∃ A m c, vs[j]? = some (.slice A m c) ∧ Rd w w.heap.size A m (bss.getD j [])) :
  RdS (w.alloc (.cells vs.toArray T)) (w.heap.size + 1) (some ⟨w.heap.size, 0, none⟩) vs.length bss := by
 refine ⟨hl, fun _ => ⟨w.heap.size, 0, rfl, by omega, fun j hj => ?_⟩⟩
 obtain ⟨A, m, c, hv, hr⟩ := h j hj
 refine ⟨A, m, c, ?_, ((hr.below ((Below.refl _ _).alloc (Nat.le_refl _) _)).more (by omega))⟩
 rw [World.cell?_alloc_at _ _ _ _ (by rfl)]
 simpa using hv
theorem RdS.nil (w : World) (B : Nat) (A : Option Addr) : RdS w B A 0 [] := ⟨rfl, fun h => absurd h (Nat.lt_irrefl 0)⟩
end Go.Proofs.YtopilgedcnbdaaaDoor