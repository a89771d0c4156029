/- The laws' own helpers of layer 10 (citadellaw10): great, copied, stays, spoil. -/
import Derived.Test.YtkaobafgecoomaaChX
namespace Go.Proofs.Ytkaobafgecoomaa
open Go.RowKit
set_option linter.unusedVariables false
set_option linter.unusedSimpArgs false

/-- Is a queue more than is gone through? -/
def bigQ (l : List (List UInt8)) : Bool := decide (20 < l.length) || decide (400 < l.length + tot l l.length)
theorem bigQ_small {l : List (List UInt8)} (h : bigQ l = false) : l.length ≤ 20 ∧ ∀ m ∈ l, m.length ≤ 400 := by
  simp only [bigQ, Bool.or_eq_false_iff, decide_eq_false_iff_not, Nat.not_lt] at h
  refine ⟨h.1, fun m hm => ?_⟩
  obtain ⟨i, hi, rfl⟩ := List.getElem_of_mem hm
  have h1 := tot_succ (bss := l) hi
  have h2 := tot_le l (i + 1)
  have h3 : tot l l.length = l.flatten.length := by unfold tot; rw [List.take_length]
  simp only [List.getD, List.getElem?_eq_getElem hi, Option.getD_some] at h1
  omega
theorem tot_bound {l : List (List UInt8)} (h : ∀ m ∈ l, m.length ≤ 140737488355328) : ∀ k, k ≤ l.length → tot l k ≤ k * 140737488355328
  | 0, _ => by simp [tot]
  | k + 1, hk => by
    have h1 := tot_bound h k (by omega)
    rw [tot_succ (by omega)]
    have h2 := h l[k] (List.getElem_mem (by omega))
    simp only [List.getD, List.getElem?_eq_getElem (show k < l.length by omega), Option.getD_some]
    omega
set_option maxRecDepth 1000000 in
set_option maxHeartbeats 1000000 in
theorem lGreat (a b d e s : Int) (A : Option Addr) (n c : Nat) (l : List (List UInt8)) (w : World) (hS : RdS w w.heap.size A n l) (hn : n ≤ 140737488355328) (hl : ∀ m ∈ l, m.length ≤ 140737488355328) :
    Calls Try.prog 9 #[.agg #[.int .i64 a, .int .i64 b, .int .i64 d, .int .i64 e, .int .i64 s, .slice A n c]] w fun x w' => x = .returned (.bool (bigQ l)) ∧ Below w.heap.size w w' := by
  have B := Lib.hid ((Below.refl w.heap.size w).alloc (Nat.le_refl _) (.cells #[.int .i64 a, .int .i64 b, .int .i64 d, .int .i64 e, .int .i64 s, .slice A n c] 26))
  have Q := Lib.hid (Qx.new w a b d e s (.slice A n c) 26)
  have S := Lib.hid (hS.toX B.out)
  have HN := Lib.hid hn
  have HLL := Lib.hid hS.1
  have HL := Lib.hid hl
  clear hS hn hl
  obtain ⟨x0, x1, x2, x3, x4, x5⟩ := Q.out.six
  by_cases h20 : 20 < n
  · have hI : (n : Int) > 20 := by omega
    have HE : Hid (bigQ l = true) := by show _ = _; unfold bigQ; rw [HLL.out, decide_eq_true h20]; rfl
    clear h20
    go_enter Try.func9, Try.ntmps9
    go_wp2_with fail
    go_ret
    exact ⟨by rw [HE.out]; rfl, B.out⟩
  have hI : ¬ (n : Int) > 20 := by omega
  have H20 : Hid (n ≤ 20) := Nat.not_lt.1 h20
  clear h20
  go_enter Try.func9, Try.ntmps9
  go_wp2_with fail
  generalize w.alloc (.cells #[.int .i64 a, .int .i64 b, .int .i64 d, .int .i64 e, .int .i64 s, .slice A n c] 26) = w1 at *
  clear hI
  go_loop [3, 4] (fun s3 s4 => ∃ k : Nat, k ≤ n ∧ s4 = .int .i64 (k : Int) ∧ s3 = .int .i64 ((n + tot l k : Nat) : Int)) (fun _ s4 => n - (intOf s4).toNat)
  case atStart => exact ⟨0, Nat.zero_le _, rfl, by simp [tot]⟩
  case round =>
    obtain ⟨k, hk, rfl, rfl⟩ := hrel
    have HTB : Hid (tot l k ≤ k * 140737488355328) := tot_bound HL.out k (by rw [HLL.out]; exact hk)
    by_cases hlt : k < n
    · have hltI : (k : Int) < (n : Int) := by omega
      have HLT : Hid (k < n) := hlt
      have hwk : IntKind.i64.wrap ((k : Int) + 1) = (k : Int) + 1 := by have := H20.out; rw [IntKind.wrap_i64]; omega
      obtain ⟨bb, o, A', m, c', rfl, hcell, hrd⟩ := S.out.at_ hlt
      have HTS : Hid (tot l (k + 1) = tot l k + m) := by
        show _ = _
        rw [tot_succ (by rw [HLL.out]; exact hlt), hrd.1]
      have HTB1 : Hid (tot l (k + 1) ≤ (k + 1) * 140737488355328) := tot_bound HL.out (k + 1) (by rw [HLL.out]; exact hlt)
      obtain ⟨t0, ht0⟩ : ∃ t0, n + tot l k = t0 := ⟨_, rfl⟩
      rw [ht0]
      have hws : IntKind.i64.wrap ((t0 : Int) + (m : Int)) = (t0 : Int) + (m : Int) := by have := HTB1.out; have := HTS.out; have := H20.out; rw [IntKind.wrap_i64]; omega
      have HT0 := Lib.hid ht0
      clear hrd hk hlt ht0
      go_wp2_with fail
      go_round
      case rel => exact ⟨k + 1, HLT.out, by go_num, by have h1 := HT0.out; have h2 := HTS.out; rw [show n + tot l (k + 1) = t0 + m by omega]; push_cast; rfl⟩
      case measure => have := HLT.out; simp [intOf]; omega
    · obtain rfl : k = n := by omega
      have hltI : ¬ (k : Int) < (k : Int) := by omega
      have HE : Hid (bigQ l = decide (400 < k + tot l k)) := by
        show _ = _
        unfold bigQ; rw [HLL.out, decide_eq_false (show ¬ 20 < k by have := H20.out; omega)]; rfl
      generalize k + tot l k = t0 at *
      clear hk hlt
      go_wp2_with fail
      all_goals (go_ret; refine ⟨ret_bool ?_, B.out⟩; rw [HE.out]; first | (simp; done) | (simp_all; done) | (rw [Bool.eq_iff_iff]; simp; omega))

/-- The rows of a queue that is copied: each with one byte behind it. -/
def tailR (m : List UInt8) : Row := (m ++ [99], m.length)
def lastR : Row := ([98], 1)
theorem tail_row {A : Option Addr} {m c : Nat} {row : List UInt8} {wd : World} (ty : TypeId) (hr : Rd wd wd.heap.size A m row) (hm : m ≤ 1000) :
    ∃ A1 c1 w5, (Builtin.append_ #[27, 27] ty #[.slice (some ⟨wd.heap.size, 0, none⟩) 0 0, .slice A m c]).run Try.prog (wd.alloc (.cells #[] 5)) = .ok (.slice A1 m c1) w5 ∧ Below wd.heap.size wd w5 ∧
    ∃ A2 c2 w6, (Builtin.append_ #[27, 27] ty #[.slice A1 m c1, .slice (some ⟨w5.heap.size, 0, none⟩) 1 1]).run Try.prog (w5.alloc (.cells #[.int .u8 99] 5)) = .ok (.slice A2 (m + 1) c2) w6 ∧
      OwR w6 wd.heap.size A2 (m + 1) (row ++ [99]) ∧ m + 1 ≤ c2 ∧ c2 ≤ 9223372036854775807 ∧ Below wd.heap.size wd w6 := by
  have hb := (Below.refl wd.heap.size wd).alloc (Nat.le_refl _) (.cells #[] 5)
  obtain ⟨v', w5, hrun, hown, hbel, hsz⟩ := run_pushAll isU8 ty (B := wd.heap.size) (n := 0) (bs := []) (c := c) (own_top (w := wd) [] 5 (Nat.le_refl _) (by simp) (by decide)) (hr.to hb) hb.size (by omega)
  rw [Nat.zero_add, List.nil_append] at hown
  obtain ⟨A1, c1, rfl⟩ := own_slice hown
  have hb5 := hb.trans hbel
  have hb6 := (Below.refl w5.heap.size w5).alloc (Nat.le_refl _) (.cells #[.int .u8 99] 5)
  have hR := Rd.lit (w := w5) [99] [.int .u8 99] 5 rfl
  obtain ⟨v2, w6, hrun2, hown2, hbel2, hsz2⟩ := run_pushAll isU8 ty (B := wd.heap.size) (c := 1) (own_below hown hb6) hR (Nat.le_trans hb5.size hb6.size) (by simp; omega)
  obtain ⟨A2, c2, rfl⟩ := own_slice hown2
  obtain ⟨h1, h2⟩ := own_cap hown2
  exact ⟨A1, c1, w5, hrun, hb5, A2, c2, w6, hrun2, OwR.of_own hown2, h1, h2, (hb5.trans (hb6.mono hb5.size)).trans hbel2⟩
/-- A row behind a list of the call's own. -/
theorem push_any {B k c1 : Nat} {v : Value} {xs : List Row} {x : Row} {A1 : Option Addr} {wd w6 : World} (ty : TypeId) (hx : RowsX wd B v k xs) (hB : B ≤ wd.heap.size)
    (ho : OwR w6 wd.heap.size A1 x.1.length x.1) (h0 : x.2 ≤ x.1.length) (h1 : x.1.length ≤ c1) (h2 : c1 ≤ 9223372036854775807) (hb : Below wd.heap.size wd w6) (hk : k + 1 ≤ 100000) :
    ∃ A2 c2 w7, (Builtin.append_ #[24, 24] ty #[v, .slice (some ⟨w6.heap.size, 0, none⟩) 1 1]).run Try.prog (w6.alloc (.cells #[.slice A1 x.2 c1] 27)) = .ok (.slice A2 (k + 1) c2) w7 ∧
      RowsX w7 B (.slice A2 (k + 1) c2) (k + 1) (xs ++ [x]) ∧ Keep (fun b => B ≤ b) wd w7 := by
  have hb2 := (Below.refl w6.heap.size w6).alloc (Nat.le_refl _) (.cells #[.slice A1 x.2 c1] 27)
  have hb3 := hb.trans (hb2.mono hb.size)
  have hO : ROk w6 B x A1 c1 := ⟨ho.mono hB, h0, h1, h2⟩
  obtain ⟨v', w7, hrun, hX, hK, hob⟩ := run_pushX ty (hx.to hb3) (x := x) (A := A1) (c := c1) (heap_alloc_last w6 _) (hO.to hb2)
    (fun h0 b o e e2 => absurd (hx.base e2).2 (Nat.not_lt.2 (ho.blk h0 e).1)) (Nat.le_trans hB hb3.size) hk
  obtain ⟨A2, c2, rfl, _, _⟩ := hX.slice
  exact ⟨A2, c2, w7, hrun, hX, (Keep.of_below hb3).trans (hK.more (fun b e => (hx.base e).1))⟩
theorem take_tails {l : List (List UInt8)} {k : Nat} (h : k < l.length) : (l.take (k + 1)).map tailR = (l.take k).map tailR ++ [tailR (l.getD k [])] := by
  rw [List.take_succ_eq_append_getElem h, List.map_append]
  simp [List.getD, List.getElem?_eq_getElem h]
/-- What copied hands back. -/
def CopR (w : World) (c : Ch) (n : Nat) (l : List (List UInt8)) (x : Ending) (w' : World) : Prop :=
  ∃ A k, x = .returned (.agg (quA c (.slice A n k))) ∧ OwS w' w.heap.size A (n + 1) (l.map tailR ++ [lastR]) ∧ n + 1 ≤ k ∧ k ≤ 9223372036854775807 ∧ Below w.heap.size w w'
end Go.Proofs.Ytkaobafgecoomaa
