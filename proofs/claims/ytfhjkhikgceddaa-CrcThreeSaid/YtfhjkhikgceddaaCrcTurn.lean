/- The document's statements' own place-by-place exclusive or (citadellaw02.turned): what it returns. -/
import Derived.Test.YtfhjkhikgceddaaCrcW
import Derived.Deep.RegionLaw
namespace Go.Proofs.Ytfhjkhikgceddaa
open Go.RowKit
set_option linter.unusedVariables false

/-- 'out = append(out, z)' of one byte at a step of a region that draws, the byte laid already. -/
theorem step_push {P : Program} {T U : TypeId} (L : U8 P T U) {ops : Array Oper} {o : Oper} {a : Act} {K : Act → World → Prop} {Q : Exit → Act → World → Prop} {E : Prop} (hgd : o.guard = none) (s x : Operand)
    (ho : o.op = .call { callee := .builtin .append, args := #[s, x], argTypes := #[T, T] }) {B k g : Nat} {w wx : World} {v : Value} {bs : List UInt8} {z : Int} (hs : a.eval s = v)
    (hx : a.eval x = .slice (some ⟨g, 0, none⟩) 1 1) (hblk : wx.heap[g]? = some (.cells #[.int .u8 z] U (0, 0))) (hown : wx.ownsRow B U 1 v k (bs.map bval)) (hb : Below B w wx) (hB : B ≤ wx.heap.size) (hk : k + 1 ≤ 140737488355328)
    (y : UInt8) (hz : z = (y.toNat : Int))
    (h : ∀ v' w1, w1.ownsRow B U 1 v' (k + 1) ((bs ++ [y]).map bval) → Below B w w1 → wx.heap.size ≤ w1.heap.size → K (a.put o.dst v') w1) :
    if Region.wanted o (yielded ops a.tmps) = true then Oper.wp P o a wx K Q else E := by
  obtain ⟨i0, hi, hz0, hz1, hz2⟩ := info_parts L.info
  refine step_append_lies wx hgd s x T ho B U i0 (.int .u8 0) 1 1 L.ul hi hz0 hz1 hz2 rfl (by decide) v k _ hs hown ⟨g, 0, none⟩ 1 1 [.int .u8 z] hx rfl (World.news_of_block hblk) ?_ (by decide) ?_ ?_ hB _ rfl ?_
  · intro u hu; simp at hu; subst hu; rfl
  · unfold maxLen; omega
  · omega
  · intro g' cap w1 hown' hgrow _ _
    exact h _ w1 (by rw [List.map_append]; subst hz; exact hown') (hb.grown hgrow hB (fun j hj => (hown.lt j hj).1)) hgrow.size

def XorRel (B n m : Nat) (w : World) (xs ys : List UInt8) (v i : Value) (wr : World) : Prop :=
  ∃ k : Nat, k ≤ n ∧ k ≤ m ∧ i = .int .i64 (k : Int) ∧ wr.ownsRow B 5 1 v k ((xorL (xs.take k) (ys.take k)).map bval) ∧ Below B w wr
theorem xorL_snoc {xs ys : List UInt8} {k : Nat} (h1 : k < xs.length) (h2 : k < ys.length) : xorL (xs.take (k + 1)) (ys.take (k + 1)) = xorL (xs.take k) (ys.take k) ++ [xs.getD k 0 ^^^ ys.getD k 0] := by
  induction k generalizing xs ys with
  | zero =>
    match xs, ys, h1, h2 with
    | x :: xs, y :: ys, _, _ => simp [xorL]
  | succ k ih =>
    match xs, ys, h1, h2 with
    | x :: xs, y :: ys, h1, h2 =>
      simp only [List.take_succ_cons, xorL, List.cons_append, List.getD_cons_succ]
      rw [ih (by simpa using h1) (by simpa using h2)]
theorem xorL_all (xs ys : List UInt8) : xorL (xs.take (min xs.length ys.length)) (ys.take (min xs.length ys.length)) = xorL xs ys := by
  induction xs generalizing ys with
  | nil => simp [xorL]
  | cons x xs ih =>
    cases ys with
    | nil => simp [xorL]
    | cons y ys => simp only [List.length_cons, Nat.add_min_add_right, List.take_succ_cons, xorL, ih]
theorem xor_u8 (a b : UInt8) : bits .xor .u8 (a.toNat : Int) (b.toNat : Int) = ((a ^^^ b).toNat : Int) := by
  rw [UInt8.toNat_xor]
  exact u8_xor_nat _ _ a.toNat_lt b.toNat_lt

set_option maxHeartbeats 1000000 in
theorem rTurned (A A' : Option Addr) (n m c d : Nat) (xs ys : List UInt8) (w : World) (ha : Rd w w.heap.size A n xs) (hb : Rd w w.heap.size A' m ys) (hn : n ≤ 140737488355328) (hm : m ≤ 140737488355328) :
    Calls Try.prog 22 #[.slice A n c, .slice A' m d] w fun e w' => RetB 5 w (xorL xs ys) e w' := by
  have HA := Lib.hid ha
  have HB := Lib.hid hb
  clear ha hb
  go_enter Try.func22, Try.ntmps22
  go_wp2
  go_loopw [5, 6] (fun v i wr => XorRel w.heap.size n m w xs ys v i wr) (fun _ i _ => n - (intOf i).toNat)
  case atStart => exact ⟨0, Nat.zero_le _, Nat.zero_le _, rfl, by simpa [xorL] using World.ownsRow_nil w w.heap.size 5 1, Below.refl _ _⟩
  case round =>
    obtain ⟨k, hk, hk', rfl, hown, hbel⟩ := hrel
    have hsz := hbel.size
    by_cases h1 : k < n
    · by_cases h2 : k < m
      · obtain ⟨b, o, rfl, hbo, hc⟩ := HA.out.2 (by omega)
        obtain ⟨b', o', rfl, hbo', hc'⟩ := HB.out.2 (by omega)
        have hcell : wr.cell? ⟨b, o + k, none⟩ = some (.int .u8 (nth xs k : Int)) := (hbel.cell hbo).trans (hc k h1)
        have hcell' : wr.cell? ⟨b', o' + k, none⟩ = some (.int .u8 (nth ys k : Int)) := (hbel.cell hbo').trans (hc' k h2)
        clear hc hc'
        have hx := xor_u8 (xs.getD k 0) (ys.getD k 0)
        change bits .xor .u8 (nth xs k : Int) (nth ys k : Int) = _ at hx
        have HX := Lib.hid (xorL_snoc (xs := xs) (ys := ys) (k := k) (by rw [HA.out.1]; exact h1) (by rw [HB.out.1]; exact h2))
        go_wp2
        have hblk : (wr.alloc (.cells #[.int .u8 ((xs.getD k 0 ^^^ ys.getD k 0).toNat : Int)] 5)).drew.heap[wr.heap.size]? = some (.cells #[.int .u8 ((xs.getD k 0 ^^^ ys.getD k 0).toNat : Int)] 5 (0, 0)) := heap_alloc_last wr _
        have HK := Lib.hid hblk
        have HO : Hid ((wr.alloc (.cells #[.int .u8 ((xs.getD k 0 ^^^ ys.getD k 0).toNat : Int)] 5)).drew.ownsRow w.heap.size 5 1 u5 k ((xorL (xs.take k) (ys.take k)).map bval)) := (hown.alloc _).drew
        have HL : Hid (Below w.heap.size w (wr.alloc (.cells #[.int .u8 ((xs.getD k 0 ^^^ ys.getD k 0).toNat : Int)] 5)).drew) := (hbel.alloc hsz _).drew
        clear hblk hown hbel
        generalize xs.getD k 0 ^^^ ys.getD k 0 = y at *
        go_region_law (refine step_push isU8 rfl (.tmp 19) (.tmp 29) rfl rfl rfl HK.out HO.out HL.out HL.out.size (by omega) y rfl ?_; intro v1 w1 hown1 hbel1 hsz1)
        all_goals
          go_wp2
          go_roundw
          case rel => exact ⟨k + 1, by omega, by omega, by go_num, by rw [HX.out]; exact hown1, hbel1⟩
          case measure => simp [intOf]; omega
      · obtain rfl : k = m := by omega
        have e : min xs.length ys.length = k := by rw [HA.out.1, HB.out.1]; omega
        have HE : Hid (xorL (xs.take k) (ys.take k) = xorL xs ys) := by rw [← e]; exact xorL_all xs ys
        clear e
        go_wp2
        go_ret
        rw [HE.out] at hown
        exact RetB.mk hown hbel
    · obtain rfl : k = n := by omega
      have e : min xs.length ys.length = k := by rw [HA.out.1, HB.out.1]; omega
      have HE : Hid (xorL (xs.take k) (ys.take k) = xorL xs ys) := by rw [← e]; exact xorL_all xs ys
      clear e
      go_wp2
      go_ret
      rw [HE.out] at hown
      exact RetB.mk hown hbel
end Go.Proofs.Ytfhjkhikgceddaa
