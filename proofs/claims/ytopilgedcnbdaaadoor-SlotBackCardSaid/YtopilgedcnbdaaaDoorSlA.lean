/- The program's slots (slot): what is refused; one sector that is replaced. -/
import Derived.Test.YtopilgedcnbdaaaDoorTz
import Derived.Test.YtopilgedcnbdaaaDoorDiskF
import Derived.Test.YtopilgedcnbdaaaDoorSlP
import Derived.Test.YtopilgedcnbdaaaDoorSlice
import Derived.Laws.CopyOwn
namespace Go.Proofs.YtopilgedcnbdaaaDoor
set_option maxRecDepth 1000000
set_option maxHeartbeats 8000000
open Go.RowKit
set_option linter.unusedVariables false
set_option linter.unusedSimpArgs false
def refP (sl a n : Int) (s : DS) : Int := if refS sl a n ≠ 0 then refS sl a n else if s.up = false then 60 else 0
theorem refP_arg {sl a n : Int} (s : DS) (h : sl < 0 ∨ 2 ≤ sl ∨ a < 0 ∨ n < 0) : refP sl a n s = 2 := by
 have e : refS sl a n = 2 := by unfold refS; rw [if_pos (by omega)]
 unfold refP
 rw [e]
 rfl
theorem refP_full {sl a n : Int} (s : DS) (h : ¬ (sl < 0 ∨ 2 ≤ sl ∨ a < 0 ∨ n < 0)) (h2 : 4096 - a < n) : refP sl a n s = 4 := by
 have e : refS sl a n = 4 := by unfold refS; rw [if_neg (by omega), if_pos (by omega)]
 unfold refP
 rw [e]
 rfl
theorem refP_in {sl a n : Int} (s : DS) (h : ¬ (sl < 0 ∨ 2 ≤ sl ∨ a < 0 ∨ n < 0)) (h2 : ¬ 4096 - a < n) : refP sl a n s = if s.up = false then 60 else 0 := by
 have e : refS sl a n = 0 := by unfold refS; rw [if_neg (by omega), if_neg (by omega)]
 unfold refP
 rw [e]
 rfl
theorem writeS_ref {sl a : Int} {b : List UInt8} {s : DS} (h : refP sl a b.length s ≠ 0) : writeS sl a b s = (refP sl a b.length s, s) := by
 unfold writeS
 unfold refP at h ⊢
 split
 ·rfl
 ·rename_i g
  rw [if_neg g] at h
  split
  ·rfl
  ·rename_i u
   rw [if_neg u] at h
   exact absurd rfl h
theorem refP_zero {sl a n : Int} {s : DS} (h : refP sl a n s = 0) : refS sl a n = 0 ∧ s.up = true := by
 unfold refP at h
 split at h
 ·rename_i g; exact absurd h g
 ·rename_i g
  split at h
  ·cases h
  ·rename_i u; exact ⟨Classical.not_not.1 g, by simpa using u⟩
theorem readS_ref {sl n : Int} {s : DS} (h : refP sl 0 n s ≠ 0) : readS sl n s = ([], refP sl 0 n s) := by
 unfold readS
 unfold refP at h ⊢
 split
 ·rfl
 ·rename_i g
  rw [if_neg g] at h
  split
  ·rfl
  ·rename_i u
   rw [if_neg u] at h
   exact absurd rfl h
theorem slRefusal (d : Nat) (F : Nat → Prop) (s : DS) (sl a n : Int) (w : World) (h : DkAt w d F s) (hl : 0 < s.L.length) (ha : a ≤ 9223372036854775807) :
  Calls Tryd.prog 14 #[.pointer (some ⟨d, 0, none⟩), .int .i64 sl, .int .i64 a, .int .i64 n] w fun e w' => e = .returned (.int .i64 (refP sl a n s)) ∧ w = w' := by
 have HLN := qH (dLen d F s w h)
 have HUP := qH (dUp d F s w h)
 have hz : ¬ (s.L.length : Int) = 0 := by omega
 clear h hl
 go_enter Tryd.func14, Tryd.ntmps14
 go_wp2_with fail
 refine (HLN.out).mono ?_
 rintro e w1 ⟨rfl, rfl⟩
 by_cases c1 : sl < 0
 ·have HE := qH (refP_arg (a := a) (n := n) s (.inl c1))
  go_wp2_with fail
  go_ret
  exact ⟨by rw [HE.out]; rfl, rfl⟩
 by_cases c2 : sl ≥ 2
 ·have HE := qH (refP_arg (a := a) (n := n) s (.inr (.inl c2)))
  go_wp2_with fail
  go_ret
  exact ⟨by rw [HE.out]; rfl, rfl⟩
 by_cases c3 : a < 0
 ·have HE := qH (refP_arg (sl := sl) (n := n) s (.inr (.inr (.inl c3))))
  go_wp2_with fail
  go_ret
  exact ⟨by rw [HE.out]; rfl, rfl⟩
 by_cases c4 : n < 0
 ·have HE := qH (refP_arg (sl := sl) (a := a) s (.inr (.inr (.inr c4))))
  go_wp2_with fail
  go_ret
  exact ⟨by rw [HE.out]; rfl, rfl⟩
 have hn : ¬ (sl < 0 ∨ 2 ≤ sl ∨ a < 0 ∨ n < 0) := by omega
 have hw : IntKind.i64.wrap (4096 - a) = 4096 - a := by rw [IntKind.wrap_i64]; omega
 by_cases c5 : n > 4096 - a
 ·have HE := qH (refP_full s hn c5)
  clear hn
  go_wp2_with fail
  go_ret
  exact ⟨by rw [HE.out]; rfl, rfl⟩
 have HE := qH (refP_in s hn c5)
 clear hn
 go_wp2_with fail
 refine (HUP.out).mono ?_
 rintro e w1 ⟨rfl, rfl⟩
 cases hu : s.up
 ·have HU := qH hu
  clear hu
  go_wp2_with fail
  go_ret
  exact ⟨by rw [HE.out, HU.out]; rfl, rfl⟩
 ·have HU := qH hu
  clear hu
  go_wp2_with fail
  go_ret
  exact ⟨by rw [HE.out, HU.out]; rfl, rfl⟩
theorem slRefusalNo (p : Value) (sl a n : Int) (w : World) (h : DkNo w p) :
  Calls Tryd.prog 14 #[p, .int .i64 sl, .int .i64 a, .int .i64 n] w fun e w' => e = .returned (.int .i64 1) ∧ w = w' := by
 have HLN := qH (dLenNo p w h)
 clear h
 go_enter Tryd.func14, Tryd.ntmps14
 go_wp2_with fail
 refine (HLN.out).mono ?_
 rintro e w1 ⟨rfl, rfl⟩
 go_wp2_with fail
 go_ret
 exact ⟨rfl, rfl⟩
def patchS (held : List UInt8) (f : Nat) (b : List UInt8) : List UInt8 := held.take f ++ b.take (64 - f) ++ held.drop (f + min (64 - f) b.length)
def replS (i f : Nat) (b : List UInt8) (s : DS) : Int × DS := if (s.read (i : Int)).2 ≠ 0 then ((s.read (i : Int)).2, s) else s.write (i : Int) (patchS (s.read (i : Int)).1 f b)
theorem read_row {s : DS} (hok : s.ok) {i : Nat} (h : (s.read (i : Int)).2 = 0) : (s.read (i : Int)).1.length = 64 := by
 unfold DS.read at h ⊢
 split at h
 ·cases h
 ·split at h
  ·cases h
  ·rename_i g1 g2
   rw [if_neg g1, if_neg g2]
   have hi : i < s.L.length := by simpa [DS.has] using g2
   rw [Int.toNat_natCast]
   exact now_len hok hi
theorem replS_step {sl p j : Nat} {b : List UInt8} {s : DS} (hok : s.ok) (hh : hitS j p b.length = true) : replS (3 + 64 * sl + j) (p - 64 * j) (b.drop (64 * j - p)) s = stepW sl p b j s := by
 unfold replS stepW
 rw [if_pos hh]
 split
 ·rfl
 ·rename_i g
  have hr := read_row hok (Classical.not_not.1 g)
  rw [overS_cut (f := p - 64 * j) (x := 64 * j - p) hr hh (by omega) (by omega)]
  unfold patchS
  rw [List.length_drop]
theorem splice_bytes {held b : List UInt8} {xs : List Value} {f : Nat} (hx : xs.take 64 = held.map bval) (hh : held.length = 64) (hf : f ≤ 64) :
  (splice xs f ((b.take (64 - f)).map bval)).take 64 = (patchS held f b).map bval := by
 have hl : 64 ≤ xs.length := by
  have := congrArg List.length hx
  simp [hh] at this
  omega
 have e1 : xs.take f = (held.take f).map bval := by
  rw [List.map_take, ← hx, List.take_take, Nat.min_eq_left hf]
 have e3 : ((b.take (64 - f)).map bval).length = min (64 - f) b.length := by simp
 unfold splice patchS
 rw [e3, ← List.append_assoc, e1, List.map_append, List.map_append]
 have e4 : ((held.take f).map bval ++ (b.take (64 - f)).map bval).length = f + min (64 - f) b.length := by simp [hh]; omega
 rw [List.take_append, e4, List.take_of_length_le (by omega)]
 congr 1
 rw [List.map_drop, ← hx, List.drop_take]
theorem slice_blk {P : Program} {T U : TypeId} (L : U8 P T U) (g : Nat) {n c l : Nat} (h2 : l ≤ n) (h3 : l < n ∨ n < c) (hc : n ≤ c) (k : IntKind) (w : World) :
  (Instr.slice T (.slice (some ⟨g, 0, none⟩) n c) (some (.int k (l : Int))) none none).run P w = .ok (.slice (some ⟨g, l, none⟩) (n - l) (c - l)) w := by
 rw [run_slice_l (ht := by rw [u8_elem L]; exact L.ul) (kl := k) (l := (l : Int)) (h0 := by omega) (h1 := by omega), u8_elem L, u8_size L]
 have e : ¬ c = l := by omega
 simp [Result.andThen, sliced, e, Addr.add]
 omega
theorem own_cur {w : World} {B g n c : Nat} {T : TypeId} {xs : List Value} (h : w.ownsRow B T 1 (.slice (some ⟨g, 0, none⟩) n c) n xs) : ∃ cur : List Value, B ≤ g ∧ w.heap[g]? = some (.cells cur.toArray T (0, 0)) ∧ cur.length = c ∧ cur.take n = xs ∧ n ≤ c := by
 rcases h.2 with ⟨h, _⟩ | ⟨g', cap, cur, hv, hg, hh, h1, h2, h3, h4⟩
 ·cases h
 ·injection hv with hv1 _ hv3
  simp only [Option.some.injEq, Addr.mk.injEq, and_true] at hv1
  subst hv1
  subst hv3
  exact ⟨cur.toList, hg, hh, by simpa using h3, by simpa using h4, h1⟩
theorem rd_cur {w : World} {g n : Nat} {T : TypeId} {xs : List Value} {bs : List UInt8} (h : w.heap[g]? = some (.cells xs.toArray T (0, 0))) (hx : xs.take n = bs.map bval) (hn : bs.length = n) : Rd w w.heap.size (some ⟨g, 0, none⟩) n bs :=
 ⟨hn, fun _ => ⟨g, 0, rfl, heap_at_lt h, fun j hj => by
  rw [Nat.zero_add, cell_of_row w g j _ _ _ h, List.getElem?_toArray]
  have e : (xs.take n)[j]? = some (bval bs[j]) := by rw [hx, List.getElem?_map, List.getElem?_eq_getElem (by omega)]; rfl
  rw [List.getElem?_take, if_pos hj] at e
  rw [e, nth_of_lt (by omega)]
  rfl⟩⟩
theorem rd_take {w : World} {B n m : Nat} {A : Option Addr} {b : List UInt8} (h : Rd w B A n b) (hp : 0 < ((b.take m).map bval).length) : ∃ ad, A = some ad ∧ ∀ j v, ((b.take m).map bval)[j]? = some v → w.cell? (ad.add j) = some v := by
 obtain ⟨bb, o, rfl, _, hcl⟩ := h.2 (by have := h.1; rw [List.length_map, List.length_take] at hp; omega)
 refine ⟨_, rfl, fun j v hv => ?_⟩
 have hj : j < b.length ∧ j < m := by
  rw [List.getElem?_map, List.getElem?_take] at hv
  split at hv
  ·rename_i hm
   refine ⟨?_, hm⟩
   rcases Nat.lt_or_ge j b.length with g | g
   ·exact g
   ·rw [List.getElem?_eq_none g] at hv; cases hv
  ·cases hv
 rw [List.getElem?_map, List.getElem?_take, if_pos hj.2, List.getElem?_eq_getElem hj.1] at hv
 rw [Addr.add_mid, hcl j (by rw [← h.1]; exact hj.1), nth_of_lt hj.1]
 exact hv
theorem patchS_len {held b : List UInt8} {f : Nat} (hh : held.length = 64) (hf : f ≤ 64) : (patchS held f b).length = 64 := by unfold patchS; simp [hh]; omega
theorem slReplace (d : Nat) (F : Nat → Prop) (s : DS) (i f x : Nat) (A : Option Addr) (n c : Nat) (b : List UInt8) (w : World) (h : DkAt w d F s) (hf : f < 64) (hr : Rd w w.heap.size A n b) (ho : Off A n F) :
  Calls Tryd.prog 17 #[.pointer (some ⟨d, 0, none⟩), .agg #[.int .i64 (i : Int), .int .i64 (f : Int), .int .i64 (x : Int)], .slice A n c] w (DkSt w d F (replS i f b s)) := by
 have HB : Hid (Below w.heap.size w (w.alloc (.cells #[.int .i64 (i : Int), .int .i64 (f : Int), .int .i64 (x : Int)] 58))) := (Below.refl _ _).alloc (Nat.le_refl _) _
 have c0 : (w.alloc (.cells #[.int .i64 (i : Int), .int .i64 (f : Int), .int .i64 (x : Int)] 58)).cell? ⟨w.heap.size, 0, none⟩ = some (.int .i64 (i : Int)) := by simp
 have c1 : (w.alloc (.cells #[.int .i64 (i : Int), .int .i64 (f : Int), .int .i64 (x : Int)] 58)).cell? ⟨w.heap.size, 1, none⟩ = some (.int .i64 (f : Int)) := by simp
 have C0 := qH c0
 have C1 := qH c1
 have HLT := qH h.lt
 have H := qH (h.to HB.out)
 have R := qH (hr.to HB.out)
 have OF := qH ho
 have HF : Hid (f < 64) := hf
 have HG : Hid (w.heap.size < (w.alloc (.cells #[.int .i64 (i : Int), .int .i64 (f : Int), .int .i64 (x : Int)] 58)).heap.size) := by show _ < _; simp
 have HRD := qH (dRead d F s (i : Int) _ H.out)
 clear h hr ho hf c1
 generalize hw0 : w.alloc (.cells #[.int .i64 (i : Int), .int .i64 (f : Int), .int .i64 (x : Int)] 58) = w0 at *
 have HW0 := qH hw0
 clear hw0
 go_enter Tryd.func17, Tryd.ntmps17
 go_wp2_with fail
 rw [HW0.out]
 go_wp2_with fail
 refine (HRD.out).mono ?_
 rintro e w3 ⟨A3, n3, c3, rfl, hown, hb⟩
 have d0 : w3.cell? ⟨w.heap.size, 0, none⟩ = some (.int .i64 (i : Int)) := (hb.cell HG.out).trans C0.out
 have d1 : w3.cell? ⟨w.heap.size, 1, none⟩ = some (.int .i64 (f : Int)) := (hb.cell HG.out).trans C1.out
 have H3 := qH (H.out.to hb)
 have R3 := qH (R.out.to hb)
 have HB3 := qH hb
 have HOWN := qH hown
 have HROW : Hid ((s.read (i : Int)).2 = 0 → (s.read (i : Int)).1.length = 64) := fun h => read_row H.out.ok h
 have HREP : Hid (replS i f b s = if (s.read (i : Int)).2 ≠ 0 then ((s.read (i : Int)).2, s) else s.write (i : Int) (patchS (s.read (i : Int)).1 f b)) := rfl
 clear hown hb HRD c0
 generalize (s.read (i : Int)).2 = ev at *
 generalize (s.read (i : Int)).1 = held at *
 by_cases hev : ev = 0
 ·subst hev
  have HLEN := qH (HROW.out rfl)
  obtain rfl : n3 = 64 := by have := (Rd.of_own HOWN.out).1; have := HLEN.out; omega
  obtain ⟨g, rfl, hg⟩ := own_head HOWN.out (by omega)
  obtain ⟨cur, -, hcur, hclen, htake, hc64⟩ := own_cur HOWN.out
  have HCUR := qH hcur
  have HTK := qH htake
  have HCL := qH hclen
  have HGE := qH hg
  have s5 := fun (k : IntKind) (W : World) => slice_blk isU8 g (n := 64) (c := c3) (l := f) (Nat.le_of_lt HF.out) (.inl HF.out) hc64 k W
  have HCS : Hid (((b.take (64 - f)).map bval).length = Nat.min n (64 - f)) := by show _ = _; rw [List.length_map, List.length_take, R.out.1]; exact Nat.min_comm _ _
  have HFIT : Hid (f + ((b.take (64 - f)).map bval).length ≤ cur.length) := by
   show _ ≤ _
   have := HF.out
   rw [List.length_map, List.length_take, HCL.out]
   omega
  clear hg hcur htake hclen
  go_wp2_with (first | (refine wpList_copy_splice rfl (.tmp 22) (.tmp 23) 22 22 rfl 5 Tryd.underlying22 (by kernel_rfl) _ _ _ _ _ _ rfl rfl g f cur 5 HCUR.out ((b.take (64 - f)).map bval) HCS.out (fun hp => ⟨rfl, rd_take R3.out hp⟩) HFIT.out (bvals_one _) w0.heap.size w0 HB3.out HGE.out ?_; intro w6 hg6 hb6; have d6 : w6.cell? ⟨w.heap.size, 0, none⟩ = some (.int .i64 (i : Int)) := (hb6.cell HG.out).trans C0.out))
  have R6 := qH (rd_cur hg6.out (splice_bytes HTK.out HLEN.out (Nat.le_of_lt HF.out)) (patchS_len HLEN.out (Nat.le_of_lt HF.out)))
  have B6 := qH hb6
  clear hg6 hb6 s5 d0 d1
  refine (dWriteS d F s (i : Int) (some ⟨g, 0, none⟩) 64 c3 (patchS held f b) w6 (H.out.to B6.out) R6.out (fun _ bb o e hf => by cases e; have h1 := HLT.out g hf; have h2 := HGE.out; have h3 := HG.out; omega)).mono ?_
  rintro e w7 h7
  obtain ⟨rfl, hd7, hk7⟩ := (h7.after B6.out).after HB.out
  have D7 := qH hd7
  have K7 := qH hk7
  clear h7 hd7 hk7
  go_wp2_with fail
  go_ret
  rw [HREP.out, if_neg (by simp)]
  exact ⟨rfl, D7.out, K7.out⟩
 ·have HNE : Hid (¬ ev = 0) := hev
  go_wp2_with fail
  go_ret
  rw [HREP.out, if_pos HNE.out]
  exact ⟨rfl, H3.out, (Keep.of_below HB.out).trans (Keep.of_below HB3.out)⟩
end Go.Proofs.YtopilgedcnbdaaaDoor