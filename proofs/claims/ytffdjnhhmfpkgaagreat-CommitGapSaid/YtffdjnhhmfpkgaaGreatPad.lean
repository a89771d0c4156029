/- The contract of the program's Padded (words). -/
import Derived.Test.YtffdjnhhmfpkgaaGreatTz
import Derived.Test.YtffdjnhhmfpkgaaGreatR0
import Derived.Shelf.Bytes.SlEqualAll
namespace Go.Proofs.YtffdjnhhmfpkgaaGreat
set_option maxRecDepth 1000000
set_option maxHeartbeats 8000000
open Go.RowKit
set_option linter.unusedVariables false
def padTo (bs : List UInt8) (k : Int) : List UInt8 := bs ++ List.replicate ((min k 65536).toNat - bs.length) 0
theorem wPadded (A : Option Addr) (n c : Nat) (k : Int) (bs : List UInt8) (w : World) (ha : Rd w w.heap.size A n bs) (hn : n ≤ 1000000) (hk : -9223372036854775808 ≤ k) (hk' : k ≤ 9223372036854775807) :
  Calls Tryz.prog 96 #[.slice A n c, .int .i64 k] w fun e w' => RetB 5 w (padTo bs k) e w' := by
 obtain ⟨s, hs, hs1, hs2, hs3⟩ : ∃ s : Nat, max (n : Int) (min k 65536) = (s : Int) ∧ n ≤ s ∧ s ≤ 1065536 ∧ s - n = (min k 65536).toNat - n := by
  refine ⟨(max (n : Int) (min k 65536)).toNat, ?_, ?_, ?_, ?_⟩ <;> omega
 have HA := qH ha
 have HS3 := qH hs3
 clear ha hs3
 go_enter Tryz.func96, Tryz.ntmps96
 go_wp2_with (at_make; refine wpList_makeB isU8 rfl _ _ rfl (s - n) rfl rfl (by omega) (by omega) (by omega) (Below.refl w.heap.size w) (Nat.le_refl _) ?_; intro w1 hown1 hbel1 hsz1)
 have R1 := qH (Rd.of_own hown1)
 have A1 := qH (HA.out.to hbel1)
 clear hown1
 have S2 := RdS.lit (w := w1) [.slice A n c, .slice (some ⟨w.heap.size, 0, none⟩) (s - n) (s - n)] 35 [bs, List.replicate (s - n) 0] rfl (fun j hj => by
  rcases j with _ | _ | j
  ·exact ⟨_, _, _, rfl, A1.out⟩
  ·exact ⟨_, _, _, rfl, R1.out⟩
  ·simp at hj; omega)
 have hf : [bs, List.replicate (s - n) (0 : UInt8)].flatten = bs ++ List.replicate (s - n) 0 := by simp
 have hlen : (bs ++ List.replicate (s - n) (0 : UInt8)).length ≤ 1065536 := by
  have := HA.out.1; simp; omega
 have hb2 : Below w.heap.size w (w1.alloc (.cells #[.slice A n c, .slice (some ⟨w.heap.size, 0, none⟩) (s - n) (s - n)] 35)) := hbel1.alloc hbel1.size _
 have HB2 := qH hb2
 have HF := qH hf
 clear hb2 hf
 refine (wCat _ 2 2 [bs, List.replicate (s - n) 0] _ (by simpa using S2) (by decide) (by rw [HF.out]; omega)).mono ?_
 generalize w1.alloc (.cells #[.slice A n c, .slice (some ⟨w.heap.size, 0, none⟩) (s - n) (s - n)] 35) = w2 at *
 rintro e w3 ⟨A3, n3, c3, rfl, hown3, hbel3⟩
 rw [HF.out] at hown3
 have O3 := qH (RetB.mk (own_mono hown3 HB2.out.size) (HB2.out.trans (hbel3.mono HB2.out.size)))
 clear hown3 hbel3
 go_wp2
 go_ret
 have h := O3.out
 rw [HS3.out, ← HA.out.1] at h
 exact h
end Go.Proofs.YtffdjnhhmfpkgaaGreat