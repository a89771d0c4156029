/- The program's disk (disk): a new one; one that nobody made. -/
import Derived.Test.YtopilgedcnbdaaaDoorTz
import Derived.Test.YtopilgedcnbdaaaDoorDiskF
namespace Go.Proofs.YtopilgedcnbdaaaDoor
set_option maxRecDepth 1000000
set_option maxHeartbeats 8000000
open Go.RowKit
set_option linter.unusedVariables false
set_option linter.unusedSimpArgs false
theorem dReadNo (p : Value) (i : Int) (w : World) (h : DkNo w p) : Calls Tryd.prog 16 #[p, .int .i64 i] w fun e w' => e = .returned (.tuple #[.slice none 0 0, .int .i64 1]) ∧ w = w' := by
 have H := qH (dStateNo p w h)
 clear h
 go_enter Tryd.func16, Tryd.ntmps16
 go_wp2_with fail
 refine (H.out).mono ?_
 rintro e w1 ⟨rfl, rfl⟩
 go_wp2_with fail
 go_ret2
 exact ⟨rfl, rfl⟩
theorem dWriteNo (p : Value) (i : Int) (A : Option Addr) (n c : Nat) (w : World) (h : DkNo w p) : Calls Tryd.prog 31 #[p, .int .i64 i, .slice A n c] w fun e w' => e = .returned (.int .i64 1) ∧ Below w.heap.size w w' := by
 have HB : Hid (Below w.heap.size w (((w.alloc (.cells #[p] 27)).alloc (.cells #[.int .i64 i] 3)).alloc (.cells #[.slice A n c] 22))) := (((Below.refl _ _).alloc (Nat.le_refl _) _).alloc (by simp) _).alloc (by simp; omega) _
 have H := qH (dStateNo p _ (h.to HB.out))
 have HP := qH h
 clear h
 cases HP.out with
 | none =>
  go_enter Tryd.func31, Tryd.ntmps31
  go_wp2_with fail
  refine (H.out).mono ?_
  rintro e w1 ⟨rfl, rfl⟩
  go_wp2_with fail
  go_ret
  exact ⟨rfl, HB.out⟩
 | fresh d hd =>
  go_enter Tryd.func31, Tryd.ntmps31
  go_wp2_with fail
  refine (H.out).mono ?_
  rintro e w1 ⟨rfl, rfl⟩
  go_wp2_with fail
  go_ret
  exact ⟨rfl, HB.out⟩
theorem secs_bytes : (Tryd.prog.info? 73).map (fun i => (i.zero, i.size, i.bytes)) = some (some (.agg (Array.replicate 64 (.int .u8 0))), 64, 64) := by kernel_rfl
theorem dNewBad (n : Int) (w : World) (h : n < 1 ∨ 1024 < n) : Calls Tryd.prog 19 #[.int .i64 n] w fun e w' => e = .returned (.tuple #[.pointer none, .int .i64 2]) ∧ w = w' := by
 go_enter Tryd.func19, Tryd.ntmps19
 by_cases h1 : n < 1
 ·go_wp2_with fail
  go_ret2
  exact ⟨rfl, rfl⟩
 ·have h2 : n > 1024 := by omega
  clear h
  go_wp2_with fail
  go_ret2
  exact ⟨rfl, rfl⟩
theorem made_at (n j : Nat) (h : j < n * 64) : (madeCells (Value.agg (Array.replicate 64 (.int .u8 0))).cells (n * 64)).toList[j]? = some (.int .u8 0) := by
 have hs : (Value.agg (Array.replicate 64 (.int .u8 0))).cells = Array.replicate 64 (.int .u8 0) := rfl
 rw [hs, Array.getElem?_toList, madeCells, Array.getElem?_map]
 have h1 : (Array.range (n * 64))[j]? = some j := by
  rw [Array.getElem?_eq_getElem (by simpa using h)]; simp
 rw [h1]
 simp only [Option.map_some, Array.size_replicate]
 have hm : j % 64 < 64 := Nat.mod_lt _ (by decide)
 rw [getElem!_pos _ _ (by simpa using hm)]
 simp
theorem secs_made {w w1 : World} {T : TypeId} {n : Nat} (h : w1.ownsRow w.heap.size T 64 (.slice (some ⟨w.heap.size, 0, none⟩) n n) n (madeCells (Value.agg (Array.replicate 64 (.int .u8 0))).cells (n * 64)).toList) : SecsAt w1 w.heap.size (List.replicate n sec0) := by
 rcases h.2 with ⟨h, _⟩ | ⟨g, cap, cur, hv, _, hh, _, _, hcs, htk⟩
 ·cases h
 injection hv with hv hc1 hc2
 injection hv with hv; injection hv with hv
 subst hv; subst hc2
 have hcell : ∀ j, j < n * 64 → w1.cell? ⟨w.heap.size, j, none⟩ = some (.int .u8 0) := by
  intro j hj
  rw [cell_of_row w1 _ j cur _ _ hh]
  have := made_at n j hj
  rw [← htk, List.getElem?_take, if_pos hj, Array.getElem?_toList] at this
  exact this
 refine ⟨fun i hi j v hv => ?_, fun j hj => ?_, fun x hx => by obtain ⟨_, rfl⟩ := List.mem_replicate.1 hx; rfl⟩
 ·have hi' : i < n := by simpa using hi
  have e : (List.replicate n sec0).getD i [] = sec0 := by simp [List.getD, hi']
  rw [e] at hv
  have hj : j < 64 := by
   rcases Nat.lt_or_ge j 64 with g | g
   ·exact g
   ·rw [List.getElem?_eq_none (by simpa [sec0] using g)] at hv; cases hv
  rw [hcell (i * 64 + j) (by omega), ← hv, List.getElem?_map]
  have h0 : sec0[j]? = some 0 := by unfold sec0; rw [List.getElem?_replicate, if_pos hj]
  rw [h0]
  rfl
 ·rw [List.length_replicate] at hj
  rw [Nat.zero_add]
  exact ⟨by rw [hcell j hj]; rfl, by simp [World.frozen?, hh]⟩
theorem dNew (n : Nat) (w : World) (h1 : 1 ≤ n) (h2 : n ≤ 1024) : Calls Tryd.prog 19 #[.int .i64 (n : Int)] w fun e w' => ∃ d, e = .returned (.tuple #[.pointer (some ⟨d, 0, none⟩), .int .i64 0]) ∧ ∃ F, DkAt w' d F (DS.new n) ∧ (∀ k, F k → w.heap.size ≤ k) ∧ Below w.heap.size w w' := by
 obtain ⟨i0, hi, hz0, hz1, hz2⟩ := info_parts secs_bytes
 have g1 : ¬ (n : Int) < 1 := by omega
 have g2 : ¬ (n : Int) > 1024 := by omega
 have HI := qH hi
 have HZ0 := qH hz0
 have HZ1 := qH hz1
 have HZ2 := qH hz2
 have HN1 : Hid (n ≤ 1024) := h2
 clear hi hz0 hz1 hz2 h1 h2
 have hmm := @run_makeMap Tryd.prog
 go_enter Tryd.func19, Tryd.ntmps19
 go_wp2_with (refine wpList_make_full w rfl (.tmp 10) (.tmp 10) 28 rfl w.heap.size 73 i0 (.agg (Array.replicate 64 (.int .u8 0))) 64 Tryd.underlying28 HI.out HZ0.out HZ1.out .i64 .i64 (n : Int) (n : Int) n rfl rfl rfl rfl (by rw [HZ2.out]; have := HN1.out; omega) (by unfold maxLen; have := HN1.out; omega) (Nat.le_refl _) ?_; intro w1 hown1 hgr1)
 have B1 := qH ((Below.refl w.heap.size w).grown hgr1 (Nat.le_refl _) (fun k hk => by cases hk))
 have S1 := qH (secs_made hown1)
 have HL1 : Hid (w.heap.size < w1.heap.size) := by
  rcases hown1.2 with ⟨h, _⟩ | ⟨g, cap, cur, hv, _, hh, _⟩
  ·cases h
  ·injection hv with hv; injection hv with hv; injection hv with hv
   show _ < _
   rw [hv]; exact heap_at_lt hh
 clear hown1 hgr1
 go_ret2
 refine ⟨w1.heap.size + 1, rfl, fun k => k = w.heap.size ∨ k = w1.heap.size ∨ k = w1.heap.size + 1, ⟨w.heap.size, w1.heap.size, Value.nilFunc, ?_⟩, fun k hk => (by have := HL1.out; rcases hk with rfl | rfl | rfl <;> omega), (B1.out.alloc (Nat.le_of_lt HL1.out) _).alloc (by simp; have := HL1.out; omega) _⟩
 have BA : Below w1.heap.size w1 (w1.alloc (.map #[] 0)) := (Below.refl _ _).alloc (Nat.le_refl _) _
 have BB : ∀ o, Below (w1.heap.size + 1) (w1.alloc (.map #[] 0)) ((w1.alloc (.map #[] 0)).alloc o) := fun o => (Below.refl _ _).alloc (by simp) _
 have hne := HL1.out
 refine ⟨?_, ?_, ?_, fun h => absurd rfl h, rfl, .inr (.inr rfl), .inl rfl, .inr (.inl rfl), by omega, by omega, by omega, fun k hk => (by simp; rcases hk with rfl | rfl | rfl <;> omega), DS.ok.new HN1.out⟩
 ·have h := heap_alloc_last (w1.alloc (.map #[] 0)) (.cells (dkCells w.heap.size w1.heap.size n true 0 Value.nilFunc) 34)
  have e : (w1.alloc (.map #[] 0)).heap.size = w1.heap.size + 1 := by simp
  rw [e] at h
  have e2 : (DS.new n).L.length = n := by simp [DS.new]
  rw [e2]
  exact h
 ·have e : (DS.new n).L.map (·.1) = List.replicate n sec0 := by simp [DS.new]
  rw [e]
  exact (S1.out.block (BA.block w.heap.size hne)).block ((BB _).block w.heap.size (by omega))
 ·exact (MapIs.made w1 (fun x hx => by obtain ⟨_, rfl⟩ := List.mem_replicate.1 hx; rfl)).block ((BB _).block w1.heap.size (by omega))
end Go.Proofs.YtopilgedcnbdaaaDoor