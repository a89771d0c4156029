/- The laws' own helpers of layer 11: shown. -/
import Derived.Test.YtljgliagciblbaaCG
import Derived.Test.YtljgliagciblbaaCfP
import Derived.Test.YtljgliagciblbaaCfT
namespace Go.Proofs.Ytljgliagciblbaa
open Go.RowKit
set_option linter.unusedVariables false
set_option linter.unusedSimpArgs false

def exP : Pt := ⟨1, 16, 32, true, [1, 2]⟩
def exC : Cf := ⟨[(3, 1)], [exP], []⟩
def noC : Cf := ⟨[], [], []⟩
def noV : CV := ⟨none, 0, 0, none, 0, 0, none, 0, 0⟩
theorem inI_small {x : Int} (h0 : 0 ≤ x) (h : x < 1000) : inI x := ⟨by omega, by omega⟩
theorem exC_can : canC exC = true := by decide
theorem exC_in : inC exC := by
  refine ⟨fun r hr => ?_, fun p hp => ?_, fun x hx => absurd hx List.not_mem_nil⟩
  · obtain rfl := List.mem_singleton.1 hr
    exact ⟨inI_small (by decide) (by decide), inI_small (by decide) (by decide)⟩
  · obtain rfl := List.mem_singleton.1 hp
    exact ⟨inI_small (by decide) (by decide), inI_small (by decide) (by decide), inI_small (by decide) (by decide)⟩
theorem exC_len : (formC exC).length = 71 := by
  rw [formC_eq]
  simp [exC, exP, countB, winB, ptB, enc_len]
theorem noC_len : (formC noC).length = 24 := by
  rw [formC_eq]
  simp [noC, countB, enc_len]
theorem noC_can : canC noC = true := by decide
theorem noC_first : nth (formC noC) 0 = 0 := by
  rw [formC_eq]
  decide
theorem exC_not : sameCf exC noC = false := by decide
theorem exC_same : sameCf exC exC = true := by decide
theorem exC_part : findP exC.ps 1 = 0 ∧ partV exC 1 = exP := by decide
theorem exC_chan : findC exC.cs 1 = -1 := by decide
theorem own_one {w : World} {g B z : Nat} {U : TypeId} {xs : List Value} (h : Bx w g U xs) (hl : xs.length = z) (hB : B ≤ g) : w.ownsRow B U z (.slice (some ⟨g, 0, none⟩) 1 1) 1 xs := by
  have h' : w.heap[g]? = some (.cells xs.toArray U (0, 0)) := h
  refine ⟨by omega, .inr ⟨g, 1, xs.toArray, rfl, hB, h', Nat.le_refl _, by unfold maxLen; omega, by simp [hl], ?_⟩⟩
  show xs.take (1 * z) = xs
  rw [List.take_of_length_le (by omega)]
theorem shown_world (w : World) : ∃ w4, ((((w.alloc (.cells #[.slice (some ⟨w.heap.size + 1, 0, none⟩) 1 1, .slice (some ⟨w.heap.size + 1 + 1 + 1, 0, none⟩) 1 1, .slice none 0 0] 26)).alloc (.cells #[.int .i64 3, .int .i64 1] 62)).alloc (.cells #[.int .u8 1, .int .u8 2] 5)).alloc
      (.cells #[.int .i64 1, .int .i64 16, .int .i64 32, .bool true, .slice (some ⟨w.heap.size + 1 + 1, 0, none⟩) 2 2] 46)) = w4 ∧ Below w.heap.size w w4 ∧
    Bx w4 w.heap.size 26 [.slice (some ⟨w.heap.size + 1, 0, none⟩) 1 1, .slice (some ⟨w.heap.size + 1 + 1 + 1, 0, none⟩) 1 1, .slice none 0 0] ∧ Bx w4 (w.heap.size + 1) 62 [.int .i64 3, .int .i64 1] ∧
    Bx w4 (w.heap.size + 1 + 1) 5 [.int .u8 1, .int .u8 2] ∧ Bx w4 (w.heap.size + 1 + 1 + 1) 46 [.int .i64 1, .int .i64 16, .int .i64 32, .bool true, .slice (some ⟨w.heap.size + 1 + 1, 0, none⟩) 2 2] := by
  refine ⟨_, rfl, ?_⟩
  have x1 := Bx.new w 26 [.slice (some ⟨w.heap.size + 1, 0, none⟩) 1 1, .slice (some ⟨w.heap.size + 1 + 1 + 1, 0, none⟩) 1 1, .slice none 0 0]
  have b1 := (Below.refl w.heap.size w).alloc (Nat.le_refl _) (.cells #[.slice (some ⟨w.heap.size + 1, 0, none⟩) 1 1, .slice (some ⟨w.heap.size + 1 + 1 + 1, 0, none⟩) 1 1, .slice none 0 0] 26)
  have e1 : (w.alloc (.cells #[.slice (some ⟨w.heap.size + 1, 0, none⟩) 1 1, .slice (some ⟨w.heap.size + 1 + 1 + 1, 0, none⟩) 1 1, .slice none 0 0] 26)).heap.size = w.heap.size + 1 := by simp
  generalize hw1 : w.alloc (.cells #[.slice (some ⟨w.heap.size + 1, 0, none⟩) 1 1, .slice (some ⟨w.heap.size + 1 + 1 + 1, 0, none⟩) 1 1, .slice none 0 0] 26) = w1 at *
  clear hw1
  have x2 : Bx (w1.alloc (.cells #[.int .i64 3, .int .i64 1] 62)) (w.heap.size + 1) 62 [.int .i64 3, .int .i64 1] := by rw [← e1]; exact Bx.new w1 _ [.int .i64 3, .int .i64 1]
  have a2 := (Below.refl w1.heap.size w1).alloc (Nat.le_refl _) (.cells #[.int .i64 3, .int .i64 1] 62)
  have e2 : (w1.alloc (.cells #[.int .i64 3, .int .i64 1] 62)).heap.size = w.heap.size + 1 + 1 := by simp [e1]
  generalize w1.alloc (.cells #[.int .i64 3, .int .i64 1] 62) = w2 at *
  have x3 : Bx (w2.alloc (.cells #[.int .u8 1, .int .u8 2] 5)) (w.heap.size + 1 + 1) 5 [.int .u8 1, .int .u8 2] := by rw [← e2]; exact Bx.new w2 _ [.int .u8 1, .int .u8 2]
  have a3 := (Below.refl w2.heap.size w2).alloc (Nat.le_refl _) (.cells #[.int .u8 1, .int .u8 2] 5)
  have e3 : (w2.alloc (.cells #[.int .u8 1, .int .u8 2] 5)).heap.size = w.heap.size + 1 + 1 + 1 := by simp [e2]
  generalize w2.alloc (.cells #[.int .u8 1, .int .u8 2] 5) = w3 at *
  have x4 : Bx (w3.alloc (.cells #[.int .i64 1, .int .i64 16, .int .i64 32, .bool true, .slice (some ⟨w.heap.size + 1 + 1, 0, none⟩) 2 2] 46)) (w.heap.size + 1 + 1 + 1) 46 [.int .i64 1, .int .i64 16, .int .i64 32, .bool true, .slice (some ⟨w.heap.size + 1 + 1, 0, none⟩) 2 2] := by
    have hx := Bx.new w3 46 [.int .i64 1, .int .i64 16, .int .i64 32, .bool true, .slice (some ⟨w.heap.size + 1 + 1, 0, none⟩) 2 2]
    rw [e3] at hx
    exact hx
  have a4 := (Below.refl w3.heap.size w3).alloc (Nat.le_refl _) (.cells #[.int .i64 1, .int .i64 16, .int .i64 32, .bool true, .slice (some ⟨w.heap.size + 1 + 1, 0, none⟩) 2 2] 46)
  exact ⟨((b1.trans (a2.mono (by omega))).trans (a3.mono (by omega))).trans (a4.mono (by omega)), ((x1.to a2).to a3).to a4, (x2.to a3).to a4, x3.to a4, x4⟩
set_option maxRecDepth 1000000 in
set_option maxHeartbeats 1000000 in
theorem lShown (w : World) : Calls Try.prog 40 #[] w fun x w' => ∃ v : CV, x = .returned v.val ∧ RdCf w' w'.heap.size v exC ∧ v.nw = 1 ∧ v.np = 1 ∧ v.nc = 0 ∧ Below w.heap.size w w' := by
  go_enter Try.func40, Try.ntmps40
  go_wp2_with fail
  obtain ⟨w4, hw4, hb, x1, x2, x3, x4⟩ := shown_world w
  rw [hw4]
  have hlt := x4.lt
  have r1 : RdG w4 w4.heap.size (some ⟨w.heap.size + 1, 0, none⟩) 1 [(3, 1)] := RdG.of_ownV (B := 0) (own_one x2 rfl (Nat.zero_le _))
  have o2 : w4.ownsRow 0 5 1 (.slice (some ⟨w.heap.size + 1 + 1, 0, none⟩) 2 2) 2 ([1, 2].map bval) := by
    have h' : w4.heap[w.heap.size + 1 + 1]? = some (.cells #[.int .u8 1, .int .u8 2] 5 (0, 0)) := x3
    exact ⟨rfl, .inr ⟨_, 2, _, rfl, Nat.zero_le _, h', Nat.le_refl _, by unfold maxLen; omega, rfl, rfl⟩⟩
  have o3 : OwnP w4 0 (.slice (some ⟨w.heap.size + 1 + 1 + 1, 0, none⟩) 1 1) [⟨exP, some ⟨w.heap.size + 1 + 1, 0, none⟩, 2, 2⟩] := by
    refine ⟨own_one x4 rfl (Nat.zero_le _), fun q hq => ?_, fun q hq b hb => ?_⟩
    · obtain rfl := List.mem_singleton.1 hq
      exact ⟨OwR.of_own o2, Nat.le_refl _, (show (2 : Nat) ≤ 9223372036854775807 by decide), (show (2 : Nat) ≤ 140737488351232 by decide)⟩
    · obtain rfl := List.mem_singleton.1 hq
      simp only [Value.ownBlock, Option.some.injEq] at hb
      intro _ b' o' e hh
      simp only [Option.some.injEq, Addr.mk.injEq] at e
      omega
  refine bodyPost_ret (res_cf1 rfl _ _ w.heap.size _ _ _ rfl x1) rfl ⟨⟨some ⟨w.heap.size + 1, 0, none⟩, 1, 1, some ⟨w.heap.size + 1 + 1 + 1, 0, none⟩, 1, 1, none, 0, 0⟩, rfl, ⟨r1, o3.rd, ⟨rfl, fun h => absurd h (Nat.lt_irrefl 0)⟩, Nat.le_refl _, Nat.le_refl _, Nat.le_refl _⟩, rfl, rfl, rfl, hb⟩
end Go.Proofs.Ytljgliagciblbaa
