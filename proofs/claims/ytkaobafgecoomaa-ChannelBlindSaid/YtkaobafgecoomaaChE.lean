/- The laws' awake of layer 10: the chapter's rows. -/
import Derived.Test.YtkaobafgecoomaaChK
import Derived.Lib.SlBytesConst
namespace Go.Proofs.Ytkaobafgecoomaa
open Go.RowKit
set_option linter.unusedVariables false
set_option linter.unusedSimpArgs false

/-- A channel in a block that may be written. -/
def CB (w : World) (g : Nat) (c : Ch) : Prop := w.heap[g]? = some (.cells (chA c) 23 (0, 0))
theorem CB.lt {w : World} {g : Nat} {c : Ch} (h : CB w g c) : g < w.heap.size := heap_at_lt h
theorem CB.cx {w : World} {g : Nat} {c : Ch} (h : CB w g c) : Cx w g c := by
  have h' : w.heap[g]? = _ := h
  exact ⟨by simp [World.cell?, h', chA], by simp [World.cell?, h', chA], by simp [World.cell?, h', chA], by simp [World.cell?, h', chA], by simp [World.cell?, h', chA], h.lt⟩
theorem CB.fz {w : World} {g : Nat} {c : Ch} (h : CB w g c) (j : Nat) : w.frozen? ⟨g, j, none⟩ = false := by
  simp [World.frozen?, show w.heap[g]? = _ from h]
theorem CB.new (w : World) (a b d e s : Int) : CB (w.alloc (.cells #[.int .i64 a, .int .i64 b, .int .i64 d, .int .i64 e, .int .i64 s] 23)) w.heap.size ⟨a, b, d, e, s⟩ := by show (w.heap.push _)[w.heap.size]? = _; simp [chA]
theorem CB.to {w w' : World} {g : Nat} {c : Ch} (h : CB w g c) (hb : Below w.heap.size w w') : CB w' g c := (hb.block g h.lt).trans h
theorem CB.below {B : Nat} {w w' : World} {g : Nat} {c : Ch} (h : CB w g c) (hg : g < B) (hb : Below B w w') : CB w' g c := (hb.block g hg).trans h
theorem CB.kept {R : Nat → Prop} {w w' : World} {g : Nat} {c : Ch} (h : CB w g c) (hk : Keep R w w') (hn : ¬ R g) : CB w' g c := (hk.block g h.lt hn).trans h
theorem CB.set0 {w : World} {g : Nat} {a b d e s : Int} (h : CB w g ⟨a, b, d, e, s⟩) (z : Int) : CB (w.setCell ⟨g, 0, none⟩ (.int .i64 z)) g ⟨z, b, d, e, s⟩ := by
  obtain ⟨hlt, hk⟩ := Array.getElem?_eq_some_iff.1 h
  show (w.heap.modify g _)[g]? = _
  rw [Array.getElem?_eq_getElem (by rw [Array.size_modify]; exact hlt), Array.getElem_modify_self, hk]
  rfl

theorem PutR.get {w w' : World} {a b d e s : Int} {l : List (List UInt8)} {m : List UInt8} {x : Ending} (h : PutR w ⟨a, b, d, e, s⟩ l m x w') (he : errP ⟨a, b, d, e, s⟩ l m = 0) :
    ∃ A n k, x = .returned (.tuple #[.agg #[.int .i64 a, .int .i64 b, .int .i64 d, .int .i64 e, .int .i64 s, .slice A n k], .int .i64 0]) ∧ OwS w' w.heap.size A n ((putM ⟨a, b, d, e, s⟩ l m).map fullR) ∧ n ≤ k ∧ k ≤ 9223372036854775807 ∧ Below w.heap.size w w' := by
  obtain ⟨v, rfl, A, n, k, rfl, ho, h1, h2, hb⟩ := h
  unfold putL at ho
  rw [if_pos he] at ho
  refine ⟨A, n, k, ?_, ho, h1, h2, hb⟩
  unfold putC; rw [if_pos he, he]; rfl
theorem PutR.no {w w' : World} {c : Ch} {l : List (List UInt8)} {m : List UInt8} {x : Ending} {z : Int} (h : PutR w c l m x w') (he : errP c l m = z) (hz : z ≠ 0) :
    ∃ A k, x = .returned (.tuple #[.agg #[.int .i64 0, .int .i64 0, .int .i64 0, .int .i64 0, .int .i64 0, .slice A 0 k], .int .i64 z]) ∧ 0 ≤ k ∧ Below w.heap.size w w' := by
  subst he
  obtain ⟨v, rfl, A, n, k, rfl, ho, h1, h2, hb⟩ := h
  unfold putL at ho
  rw [if_neg hz] at ho
  obtain rfl : n = 0 := by have := ho.1; simpa using this.symm
  refine ⟨A, k, ?_, h1, hb⟩
  unfold putC; rw [if_neg hz]; rfl
theorem TakeR.get {w w' : World} {a b d e s : Int} {l : List (List UInt8)} {x : Ending} (h : TakeR w ⟨a, b, d, e, s⟩ l x w') (he : errT ⟨a, b, d, e, s⟩ l = 0) :
    ∃ A' n' k' A n k, x = .returned (.tuple #[.slice A' n' k', .agg #[.int .i64 a, .int .i64 b, .int .i64 d, .int .i64 e, .int .i64 s, .slice A n k], .int .i64 0]) ∧ OwR w' w.heap.size A' n' (l.headD []) ∧ OwS w' w.heap.size A n ((l.drop 1).map fullR) ∧ n ≤ k ∧ k ≤ 9223372036854775807 ∧ Below w.heap.size w w' := by
  obtain ⟨A', n', k', v, rfl, hr, A, n, k, rfl, ho, h1, h2, hb⟩ := h
  unfold takeL at ho
  unfold takeM at hr
  rw [if_pos he] at ho hr
  refine ⟨A', n', k', A, n, k, ?_, hr, ho, h1, h2, hb⟩
  unfold takeC; rw [if_pos he, he]; rfl
theorem TakeR.no {w w' : World} {c : Ch} {l : List (List UInt8)} {x : Ending} {z : Int} (h : TakeR w c l x w') (he : errT c l = z) (hz : z ≠ 0) :
    ∃ A' k' A k, x = .returned (.tuple #[.slice A' 0 k', .agg #[.int .i64 0, .int .i64 0, .int .i64 0, .int .i64 0, .int .i64 0, .slice A 0 k], .int .i64 z]) ∧ 0 ≤ k ∧ Below w.heap.size w w' := by
  subst he
  obtain ⟨A', n', k', v, rfl, hr, A, n, k, rfl, ho, h1, h2, hb⟩ := h
  unfold takeL at ho
  unfold takeM at hr
  rw [if_neg hz] at ho hr
  obtain rfl : n = 0 := by have := ho.1; simpa using this.symm
  obtain rfl : n' = 0 := by have := hr.1.1; simpa using this.symm
  refine ⟨A', k', A, k, ?_, h1, hb⟩
  unfold takeC; rw [if_neg hz]; rfl

def exM : List (List UInt8) := [[97], [98], [99]]
def exS : Nat → List (List UInt8) | 0 => [] | 1 => [[97]] | 2 => [[97], [98]] | _ => [[98], [99]]
theorem exS_step : ∀ i, i < 3 → errP ⟨1, 1, 2, 2, 3⟩ (exS i) (exM.getD i []) = 0 ∧ putM ⟨1, 1, 2, 2, 3⟩ (exS i) (exM.getD i []) = exS (i + 1) := by decide +kernel
theorem ex_long : errP ⟨1, 1, 2, 2, 3⟩ [] [97, 98, 99, 100] = 3 := by decide +kernel
theorem ex_t1 : errT ⟨1, 1, 2, 2, 3⟩ [[98], [99]] = 0 := by decide +kernel
theorem ex_t2 : errT ⟨1, 1, 2, 2, 3⟩ [[99]] = 0 := by decide +kernel
theorem ex_t3 : errT ⟨1, 1, 2, 2, 3⟩ [] = 100 := by decide +kernel
theorem ex_n1 : newC ⟨1, 1, 2, 2, 3⟩ = ⟨1, 1, 2, 2, 3⟩ ∧ newE ⟨1, 1, 2, 2, 3⟩ = 0 := by decide +kernel
theorem ex_n9 : newC ⟨9, 1, 2, 2, 3⟩ = Ch.zero ∧ newE ⟨9, 1, 2, 2, 3⟩ = 2 := by decide +kernel
/-- What stands while awake runs: the channel, the queue, its rows. -/
structure Aw (w0 w : World) (g1 g2 : Nat) (c : Ch) (A : Option Addr) (n k : Nat) (l : List (List UInt8)) : Prop where
  b : Below g1 w0 w
  ch : CB w g1 c
  q : QB w g2 ⟨1, 1, 2, 2, 3⟩ (.slice A n k)
  o : OwS w (g2 + 1) A n (l.map fullR)
  nk : n ≤ k
  gg : g1 < g2
  g0 : g1 = w0.heap.size
theorem Aw.to {w0 w w' : World} {g1 g2 : Nat} {c : Ch} {A : Option Addr} {n k : Nat} {l : List (List UInt8)} (h : Aw w0 w g1 g2 c A n k l) (hb : Below w.heap.size w w') : Aw w0 w' g1 g2 c A n k l :=
  ⟨h.b.trans (hb.mono (Nat.le_of_lt h.ch.lt)), h.ch.to hb, h.q.to hb, h.o.to hb, h.nk, h.gg, h.g0⟩
/-- A queue that was handed back, stored. -/
theorem Aw.store {w0 w w' : World} {g1 g2 : Nat} {c : Ch} {A A' : Option Addr} {n k n' k' : Nat} {l l' : List (List UInt8)} (h : Aw w0 w g1 g2 c A n k l) (hb : Below w.heap.size w w') (ho : OwS w' w.heap.size A' n' (l'.map fullR)) (hn : n' ≤ k') :
    Aw w0 (setQ w' g2 ⟨1, 1, 2, 2, 3⟩ (.slice A' n' k')) g1 g2 c A' n' k' l' := by
  have h' := h.to hb
  have hk := (Keep.refl (fun b => b = g2) w').setQ g2 ⟨1, 1, 2, 2, 3⟩ (.slice A' n' k') rfl
  have hlt := h.q.lt
  have hgg := h.gg
  exact ⟨below_setQ h'.b (Nat.le_of_lt h.gg) _ _, h'.ch.kept hk (fun e => by omega), h'.q.put _ _, (ho.kept hk (fun b e => by omega)).mono (by omega), hn, h.gg, h.g0⟩
end Go.Proofs.Ytkaobafgecoomaa
