/- Layer 15's laws: a new disk with room for both slots (citadellaw15.empty); copies into a row of the law's own. -/
import Derived.Test.YtopilgedcnbdaaaTz
import Derived.Test.YtopilgedcnbdaaaSlD
import Derived.Test.YtopilgedcnbdaaaSlQ
import Derived.Test.YtopilgedcnbdaaaDiskG
namespace Go.Proofs.Ytopilgedcnbdaaa
set_option maxRecDepth 1000000
set_option maxHeartbeats 8000000
open Go.RowKit Go.Shelf
set_option linter.unusedVariables false
set_option linter.unusedSimpArgs false
theorem sEmpty (w : World) : Calls Try.prog 5 #[] w fun e w' => ∃ d, e = .returned (.tuple #[.pointer (some ⟨d, 0, none⟩), .bool true]) ∧ ∃ F, DkAt w' d F (DS.new 323) ∧ (∀ k, F k → w.heap.size ≤ k) ∧ Below w.heap.size w w' := by
 go_enter Try.func5, Try.ntmps5
 go_wp2_with fail
 refine (dNew 323 w (by decide) (by decide)).mono ?_
 rintro e w1 ⟨d, rfl, F, hd, hf, hb⟩
 have HD := qH hd
 have HF := qH hf
 have HB := qH hb
 clear hd hf hb
 go_wp2_with fail
 refine bodyPost_ret (res_twoS rfl _ _ _ _ rfl rfl) rfl ?_
 exact ⟨d, rfl, F, HD.out, HF.out, HB.out⟩
theorem wpList_makeS {P : Program} {T U : TypeId} (L : U8 P T U) {w : World} {ops : Array Oper} {rest : List Oper} {o : Oper} {a : Act} {Q : Exit → Act → World → Prop}
  (hg : o.guard = none) (l c : Operand) (hop : o.op = Op.makeSlice T l c) {kl kc : IntKind} {I C : Int} (n : Nat) (hl : a.eval l = .int kl I) (hc : a.eval c = .int kc C) (hI : I = (n : Int)) (hC : C = (n : Int)) (hn : n ≤ 281474976710656)
  (hK : ∀ w1, w1.heap[w.heap.size]? = some (.cells ((List.replicate n (0 : UInt8)).map bval).toArray U (0, 0)) → Below w.heap.size w w1 → wpList P ops Q rest (a.put o.dst (.slice (some ⟨w.heap.size, 0, none⟩) n n)) w1) :
  wpList P ops Q (o :: rest) a w :=
 wpList_makeB L hg l c hop n hl hc hI hC hn (Below.refl _ _) (Nat.le_refl _) fun w1 hown hb _ => by
  obtain ⟨cur, -, hcur, hlen, htake, -⟩ := own_cur hown
  rw [List.take_of_length_le (by omega)] at htake
  exact hK w1 (by rw [hcur, htake]) hb
theorem run_makeS {P : Program} {T U : TypeId} (L : U8 P T U) (w : World) (n : Nat) (hn : n ≤ 281474976710656) :
  ∃ w1, (Instr.makeSlice T (.int .i64 (n : Int)) (.int .i64 (n : Int))).run P w = .ok (.slice (some ⟨w.heap.size, 0, none⟩) n n) w1 ∧ w1.heap[w.heap.size]? = some (.cells ((List.replicate n (0 : UInt8)).map bval).toArray U (0, 0)) ∧ Below w.heap.size w w1 := by
 obtain ⟨i0, hi, hz0, hz1, hz2⟩ := info_parts L.info
 obtain ⟨w1, hrun, hown, hgr⟩ := run_make_full (P := P) w w.heap.size T U i0 (.int .u8 0) 1 L.ul hi hz0 hz1 .i64 .i64 n (by rw [hz2]; omega) (by unfold maxLen; omega) (Nat.le_refl _)
 have e : (madeCells (Value.int .u8 0).cells (n * 1)).toList = (List.replicate n (0 : UInt8)).map bval := by
  rw [Nat.mul_one, List.map_replicate]
  exact toList_madeCells_one _ _
 rw [e] at hown
 obtain ⟨cur, -, hcur, hlen, htake, -⟩ := own_cur hown
 rw [List.take_of_length_le (by omega)] at htake
 exact ⟨w1, hrun, by rw [hcur, htake], (Below.refl _ _).grown hgr (Nat.le_refl _) (fun k hk => by cases hk)⟩
theorem slice_at4 {P : Program} {T U : TypeId} (L : U8 P T U) (g : Nat) {n l : Nat} (h2 : l ≤ n) : ∃ A' c', (∀ (k : IntKind) (w : World), (Instr.slice T (.slice (some ⟨g, 0, none⟩) n n) (some (.int k (l : Int))) none none).run P w = .ok (.slice A' (n - l) c') w) ∧ (l < n → A' = some ⟨g, l, none⟩) := by
 by_cases h : l < n
 ·exact ⟨_, _, fun k w => slice_blk L g (n := n) (c := n) (l := l) h2 (.inl h) (Nat.le_refl _) k w, fun _ => rfl⟩
 ·obtain ⟨A', c', h1, -⟩ := slice_lS L (some ⟨g, 0, none⟩) (n := n) (c := n) (l := l) h2 (Nat.le_refl _)
  exact ⟨A', c', h1, fun h' => absurd h' h⟩
theorem splice_set {bs b : List UInt8} {p : Nat} : splice (bs.map bval) p (b.map bval) = (setB bs p b).map bval := by
 unfold splice setB
 rw [List.length_map]
 simp only [List.map_append, List.map_take, List.map_drop, List.append_assoc]
theorem rd_all {w : World} {B n : Nat} {A : Option Addr} {b : List UInt8} (h : Rd w B A n b) (hp : 0 < (b.map bval).length) : ∃ ad, A = some ad ∧ ∀ j v, (b.map bval)[j]? = some v → w.cell? (ad.add j) = some v := by
 have e : b.take n = b := List.take_of_length_le (by rw [h.1]; exact Nat.le_refl _)
 have := rd_take (m := n) h (by rw [e]; exact hp)
 rwa [e] at this
end Go.Proofs.Ytopilgedcnbdaaa