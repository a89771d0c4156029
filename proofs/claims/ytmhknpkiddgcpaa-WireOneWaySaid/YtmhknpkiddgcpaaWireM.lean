/- The program's reader (wire), part two: what the closures hand back, and each of its functions. -/
import Derived.Test.YtmhknpkiddgcpaaWireT
namespace Go.Proofs.Ytmhknpkiddgcpaa
open Go.RowKit
set_option linter.unusedVariables false
set_option linter.unusedSimpArgs false

theorem call_enter {P : Program} {f : FuncId} {fn : Func} {c : Code} (hf : P.funcs[f]? = some fn) (hname : (fn.name == "runtime.NumGoroutine") = false) (hb : fn.body = some c) (args : Array Value) (w : World) :
    (callFunc f args).run P w = .ok (.enter f args) w := by
  have h1 : fn.name ≠ "runtime.NumGoroutine" := by simpa using hname
  simp [callFunc, hf, h1, hb]
theorem PrTo.after {w0 w w' : World} {g : Nat} {F : Nat → Prop} {s : RS} (hb : Below w0.heap.size w0 w) (h : PrTo w g F s w') : PrTo w0 g F s w' := by
  obtain ⟨F', h1, h2, h3⟩ := h
  exact ⟨F', h1, fun k hf => (h2 k hf).imp id (Nat.le_trans hb.size), (Keep.of_below hb).trans h3⟩
theorem PrTo.cell {w w' : World} {g : Nat} {F : Nat → Prop} {s : RS} (h : PrTo w g F s w') {a : Addr} (hl : a.block < w.heap.size) (hn : ¬ F a.block) : w'.cell? a = w.cell? a := by
  obtain ⟨F', h1, h2, h3⟩ := h
  exact h3.cell hl hn
theorem PrTo.upto {w w1 w' : World} {g : Nat} {F : Nat → Prop} {s : RS} (h : PrTo w g F s w1) (hb : Below w1.heap.size w1 w') : PrTo w g F s w' := by
  obtain ⟨F', h1, h2, h3⟩ := h
  exact ⟨F', h1.to hb, h2, h3.trans (Keep.of_below hb)⟩
/-- A take whose value only reads. -/
theorem TookR.pure {w w' : World} {g : Nat} {F : Nat → Prop} {s : RS} {z : Nat} {ok : Bool} {zero x : Value} {e : Ending} (h : TookR w g F s z ok zero (fun w1 e w' => e = .returned x ∧ Below w1.heap.size w1 w') e w') :
    (ok = true ∧ z ≤ s.rest.length ∧ e = .returned x ∧ PrTo w g F ⟨s.rest.drop z, 0⟩ w') ∨ ((ok = false ∨ s.rest.length < z) ∧ e = .returned zero ∧ PrTo w g F ⟨s.rest, 50⟩ w') := by
  rcases h with ⟨h1, h2, w1, h3, h4, h5, h6⟩ | ⟨h1, h2, h3, h4⟩
  · exact .inl ⟨h1, h2, h5, PrTo.upto ⟨F, h3, fun k h => .inl h, h4⟩ h6⟩
  · exact .inr ⟨h1, h2, F, h3, fun k h => .inl h, h4⟩
theorem numOf_single (x : UInt8) : numOf [x] = x.toNat := by
  unfold numOf
  rw [if_neg (by simp)]
  simp [num]
theorem take_one {l : List UInt8} (h : 1 ≤ l.length) : l.take 1 = [l.getD 0 0] := by
  match l, h with
  | x :: xs, _ => simp
theorem numb_one {s : RS} (he : s.e = 0) (h : 1 ≤ s.rest.length) : s.numb 1 = nth s.rest 0 := by
  unfold RS.numb RS.ok
  rw [decide_eq_true he, decide_eq_true h]
  show numOf (s.rest.take 1) = _
  rw [take_one h, numOf_single]; rfl
theorem next_yes {s : RS} {z : Nat} (he : s.e = 0) (h : z ≤ s.rest.length) : s.next z = ⟨s.rest.drop z, 0⟩ := by
  unfold RS.next RS.ok
  rw [decide_eq_true he, decide_eq_true h]; rfl
theorem next_no {s : RS} {z : Nat} (he : s.e = 0) (h : s.rest.length < z) : s.next z = ⟨s.rest, 50⟩ := by
  unfold RS.next RS.ok
  rw [decide_eq_false (show ¬ z ≤ s.rest.length by omega), Bool.and_false, if_neg (by simp), if_pos he]
theorem next_bad {s : RS} {z : Nat} (he : s.e ≠ 0) : s.next z = s := by
  unfold RS.next RS.ok
  rw [decide_eq_false he, Bool.false_and, if_neg (by simp), if_neg he]
theorem numb_no {s : RS} {z : Nat} (h : s.e ≠ 0 ∨ s.rest.length < z) : s.numb z = 0 := by
  unfold RS.numb RS.ok
  rw [if_neg]
  rcases h with h | h
  · simp [h]
  · simp; omega
theorem numb_yes {s : RS} {z : Nat} (he : s.e = 0) (h : z ≤ s.rest.length) : s.numb z = numOf (s.rest.take z) := by
  unfold RS.numb RS.ok
  rw [decide_eq_true he, decide_eq_true h]; rfl

/-! The values. -/
set_option maxRecDepth 100000 in
set_option maxHeartbeats 1000000 in
theorem vByte (A : Option Addr) (n c : Nat) (bs : List UInt8) (w : World) (ha : Rd w w.heap.size A n bs) (hn : 0 < n) : Calls Try.prog 61 #[.slice A n c] w fun e w' => e = .returned (.int .u8 (nth bs 0 : Int)) ∧ w = w' := by
  obtain ⟨b, o, rfl, hb, hc⟩ := ha.2 hn
  have hcell := hc 0 hn
  rw [Nat.add_zero] at hcell
  clear ha hc
  go_enter Try.func61, Try.ntmps61
  go_wp2_with fail
  go_ret
  exact ⟨rfl, rfl⟩
set_option maxRecDepth 100000 in
set_option maxHeartbeats 1000000 in
theorem vFlag (A : Option Addr) (n c : Nat) (bs : List UInt8) (w : World) (ha : Rd w w.heap.size A n bs) (hn : 0 < n) : Calls Try.prog 66 #[.slice A n c] w fun e w' => e = .returned (.bool (decide (nth bs 0 = 1))) ∧ w = w' := by
  obtain ⟨b, o, rfl, hb, hc⟩ := ha.2 hn
  have hcell := hc 0 hn
  rw [Nat.add_zero] at hcell
  obtain ⟨x, hx⟩ : ∃ x, nth bs 0 = x := ⟨_, rfl⟩
  rw [hx] at hcell ⊢
  have he1 : ((x : Int) == 1) = decide (x = 1) := by rw [Bool.eq_iff_iff]; simp; omega
  clear ha hc hx
  go_enter Try.func66, Try.ntmps66
  go_wp2_with fail
  go_ret
  exact ⟨by first | rfl | (rw [← he1]; rfl), rfl⟩
set_option maxRecDepth 100000 in
set_option maxHeartbeats 1000000 in
theorem vBytes (A : Option Addr) (n c : Nat) (bs : List UInt8) (w : World) (ha : Rd w w.heap.size A n bs) (h4 : 4 ≤ n) (hn : n ≤ c) (hc : c ≤ 1000000) : Calls Try.prog 69 #[.slice A n c] w fun e w' => RetB 5 w (bs.drop 4) e w' := by
  obtain ⟨A2, c2, hsl2, hrd2, hc2, hc2'⟩ := slice_l isU8 A (l := 4) h4 hn
  have hr2 := hrd2 _ _ _ ha
  have hm : n - 4 ≤ 1000000 := by omega
  obtain ⟨n2, hn2⟩ : ∃ n2, n - 4 = n2 := ⟨_, rfl⟩
  rw [hn2] at hsl2 hr2 hc2 hm
  have hsl3 : ∀ (w : World), (Instr.slice 26 (.slice A n c) (some (.int .i64 4)) none none).run Try.prog w = .ok (.slice A2 n2 c2) w := fun w => hsl2 .i64 w
  have HR2 := Lib.hid hr2
  clear hrd2 ha hn2 hr2 hsl2
  go_enter Try.func69, Try.ntmps69
  go_wp2_with fail
  refine (wCat1 A2 n2 c2 (bs.drop 4) w HR2.out (by omega)).mono ?_
  rintro e w1 h
  have H := Lib.hid h
  obtain ⟨A1, n1, c1, rfl, _, _⟩ := h
  go_wp2_with fail
  go_ret
  exact H.out
set_option maxRecDepth 100000 in
set_option maxHeartbeats 1000000 in
theorem vText (A : Option Addr) (n c : Nat) (bs : List UInt8) (w : World) (ha : Rd w w.heap.size A n bs) (h4 : 4 ≤ n) (hn : n ≤ c) (hc : c ≤ 1000000) : Calls Try.prog 71 #[.slice A n c] w fun e w' => e = .returned (.string (strB (bs.drop 4))) ∧ w = w' := by
  obtain ⟨A2, c2, hsl2, hrd2, hc2, hc2'⟩ := slice_l isU8 A (l := 4) h4 hn
  have hr2 := hrd2 _ _ _ ha
  obtain ⟨n2, hn2⟩ : ∃ n2, n - 4 = n2 := ⟨_, rfl⟩
  rw [hn2] at hsl2 hr2 hc2
  have hsl3 : ∀ (w : World), (Instr.slice 26 (.slice A n c) (some (.int .i64 4)) none none).run Try.prog w = .ok (.slice A2 n2 c2) w := fun w => hsl2 .i64 w
  obtain ⟨ds, hds⟩ : ∃ l, bs.drop 4 = l := ⟨_, rfl⟩
  rw [hds] at hr2 ⊢
  have hl2 := hr2.1
  have hcv := hr2.bytesIn.convert (by simp [numsOf, hl2]) c2 26 5 9 Try.underlying26 Try.underlying5 Try.underlying9
  rw [strB_nums] at hcv
  clear hrd2 ha hr2 hsl2 hds hl2
  go_enter Try.func71, Try.ntmps71
  go_wp2_with fail
  go_ret
  exact ⟨rfl, rfl⟩
end Go.Proofs.Ytmhknpkiddgcpaa
