/- Rows in a block of the call's own, whole: windows, partitions without images, channels. -/
import Derived.Test.YtecedmjhhaabgaaCfWq
import Derived.Test.YtecedmjhhaabgaaCfBq
namespace Go.Proofs.Ytecedmjhhaabgaa
open Go.RowKit
set_option linter.unusedVariables false
set_option linter.unusedSimpArgs false

theorem own_oneV {w : World} {g B z : Nat} {U : TypeId} {xs : List Value} (h : Bx w g U xs) (hl : xs.length = z) (hB : B ≤ g) : w.ownsRow B U z (.slice (some ⟨g, 0, none⟩) 1 1) 1 xs := by
  have h' : w.heap[g]? = some (.cells xs.toArray U (0, 0)) := h
  refine ⟨by omega, .inr ⟨g, 1, xs.toArray, rfl, hB, h', Nat.le_refl _, by unfold maxLen; omega, by simp [hl], ?_⟩⟩
  show xs.take (1 * z) = xs
  rw [List.take_of_length_le (by omega)]
/-- A row of the call's own in a block, whole. -/
theorem own_blk {w : World} {g B n z : Nat} {U : TypeId} {xs : List Value} (h : Bx w g U xs) (hl : xs.length = n * z) (hn : n ≤ 1000) (hB : B ≤ g) : w.ownsRow B U z (.slice (some ⟨g, 0, none⟩) n n) n xs := by
  have h' : w.heap[g]? = some (.cells xs.toArray U (0, 0)) := h
  refine ⟨hl, .inr ⟨g, n, xs.toArray, rfl, hB, h', Nat.le_refl _, by unfold maxLen; omega, by simp [hl], ?_⟩⟩
  rw [List.take_of_length_le (Nat.le_of_eq hl)]
theorem rd_ww {w : World} {g : Nat} {a b : Int} (h : Bx w g 59 [.int .i64 a, .int .i64 b]) : RdG w w.heap.size (some ⟨g, 0, none⟩) 1 [(a, b)] :=
  RdG.of_ownV (B := 0) (own_oneV h rfl (Nat.zero_le _))
theorem rd_cc {w : World} {g : Nat} {a b d e s : Int} (h : Bx w g 47 [.int .i64 a, .int .i64 b, .int .i64 d, .int .i64 e, .int .i64 s]) : RdC w w.heap.size (some ⟨g, 0, none⟩) 1 [⟨a, b, d, e, s⟩] :=
  RdC.of_ownV (B := 0) (own_oneV h rfl (Nat.zero_le _))
/-- A partition whose image is nil. -/
def qp0 (id base size : Int) (keep : Bool) : QP := ⟨⟨id, base, size, keep, []⟩, none, 0, 0⟩
theorem img0 (w : World) (B : Nat) (id base size : Int) (keep : Bool) : Img w B (qp0 id base size keep) :=
  ⟨⟨Rd.nil _ _ _, fun h => absurd h (Nat.lt_irrefl 0)⟩, Nat.le_refl _, (show (0 : Nat) ≤ 9223372036854775807 by decide), (show (0 : Nat) ≤ 140737488351232 by decide)⟩
theorem own_pp {w : World} {g B : Nat} {id base size : Int} {keep : Bool} (h : Bx w g 43 [.int .i64 id, .int .i64 base, .int .i64 size, .bool keep, .slice none 0 0]) (hB : B ≤ g) :
    OwnP w B (.slice (some ⟨g, 0, none⟩) 1 1) [qp0 id base size keep] := by
  refine ⟨own_oneV h rfl hB, fun q hq => ?_, fun q hq b hb => ?_⟩
  · obtain rfl := List.mem_singleton.1 hq
    exact img0 _ _ _ _ _ _
  · obtain rfl := List.mem_singleton.1 hq
    exact fun h => absurd h (Nat.lt_irrefl 0)
theorem rd_pp {w : World} {g : Nat} {id base size : Int} {keep : Bool} (h : Bx w g 43 [.int .i64 id, .int .i64 base, .int .i64 size, .bool keep, .slice none 0 0]) : RdP w w.heap.size (some ⟨g, 0, none⟩) 1 [⟨id, base, size, keep, []⟩] :=
  (own_pp h (Nat.zero_le _)).rd
theorem rd_ccnil (w : World) : RdC w w.heap.size none 0 [] := ⟨rfl, fun h => absurd h (Nat.lt_irrefl 0)⟩
/-- Two blocks of unlike types. -/
theorem Bx.ne {w : World} {g g' : Nat} {T T' : TypeId} {cs cs' : List Value} (h : Bx w g T cs) (h' : Bx w g' T' cs') (hT : T ≠ T') : g ≠ g' := fun e => by
  subst e
  have h1 : w.heap[g]? = _ := h
  have h2 : w.heap[g]? = _ := h'
  rw [h1] at h2
  injection h2 with h2
  injection h2 with _ h2
  exact hT h2
/-- Several windows, channels, partitions without images in a block. -/
theorem rd_wws {w : World} {g n : Nat} {l : List Reg} (h : Bx w g 59 (winsV l)) (hl : (winsV l).length = n * 2) (hn : n ≤ 1000) : RdG w w.heap.size (some ⟨g, 0, none⟩) n l :=
  RdG.of_ownV (B := 0) (own_blk h hl hn (Nat.zero_le _))
theorem rd_ccs {w : World} {g n : Nat} {l : List Ch} (h : Bx w g 47 (chsV l)) (hl : (chsV l).length = n * 5) (hn : n ≤ 1000) : RdC w w.heap.size (some ⟨g, 0, none⟩) n l :=
  RdC.of_ownV (B := 0) (own_blk h hl hn (Nat.zero_le _))
theorem rd_pps {w : World} {g : Nat} {qs : List QP} (h : Bx w g 43 (partsV qs)) (hn : qs.length ≤ 1000) (h0 : ∀ q ∈ qs, q.m = 0 ∧ q.c = 0 ∧ q.p.img = []) : RdP w w.heap.size (some ⟨g, 0, none⟩) qs.length (qs.map QP.p) := by
  have hl : (partsV qs).length = qs.length * 5 := by
    clear h h0 hn
    induction qs with
    | nil => rfl
    | cons q qs ih => rw [partsV] at ih ⊢; rw [List.flatMap_cons, List.length_append, ih, QP.cells_len, List.length_cons]; omega
  refine OwnP.rd (B := 0) ⟨own_blk h hl hn (Nat.zero_le _), fun q hq => ?_, fun q hq b hb => ?_⟩
  · obtain ⟨h1, h2, h3⟩ := h0 q hq
    refine ⟨?_, by omega, by omega, by omega⟩
    rw [h1, h3]
    exact ⟨Rd.nil _ _ _, fun h => absurd h (Nat.lt_irrefl 0)⟩
  · obtain ⟨h1, _⟩ := h0 q hq
    rw [h1]
    exact fun h => absurd h (Nat.lt_irrefl 0)
end Go.Proofs.Ytecedmjhhaabgaa
