/- For any act the law DiskNil of citadellaw06 returns true: a disk that nobody made answers nothing but that it is none. Conditions: none beyond those that the statement itself prints. -/
import Derived.Test.YtbkdgciaapkemaaRows
import Derived.Test.YtbkdgciaapkemaaDiskLd
import Derived.SizedLaws
import Derived.WalkKit
import Derived.ProofKit
import Derived.OpenShut
import Derived.ShutString
import Derived.ChangeOld
import Derived.Below
namespace Go.Proofs.Ytbkdgciaapkemaa.diskNil
open Go.ChangeShapes Go.WideShapes Go.ChangeAt Go.RowKit
open Go.ChangeMaps (open_string shut_string)
set_option linter.unusedVariables false
set_option linter.unusedSimpArgs false

theorem own : ownKnob Try.prog.godebug = none := by kernel_rfl
theorem laidOut : laidOutB Try.prog = true := by kernel_rfl


set_option maxRecDepth 1000000 in
set_option maxHeartbeats 4000000 in
theorem walk (x0 : DAct) (A0 : Option Addr) (m0 c0 : Nat) (w : World) (w0 : ActOk w w.heap.size x0 A0 m0 c0) :
    Calls Try.prog 4 #[.agg (actL x0 A0 m0 c0).toArray] w fun e w' => e = .returned (.bool true) ∧ Below w.heap.size w w' := by
  have H := Lib.hid w0
  clear w0
  show Calls _ _ #[.agg #[.int .i64 x0.kind, .int .i64 x0.n, .slice A0 m0 c0]] _ _
  obtain ⟨b0, b1, b2⟩ := act_box w (.int .i64 x0.kind) (.int .i64 x0.n) (.slice A0 m0 c0) 34
  go_enter Try.func4, Try.ntmps4
  go_wp2_with fail
  obtain ⟨W2, hW2⟩ : ∃ X, (w.alloc (.cells #[.int .i64 x0.kind, .int .i64 x0.n, .slice A0 m0 c0] 34)).alloc (.cells #[.int .i64 x0.kind, .int .i64 x0.n, .slice A0 m0 c0] 34) = X := ⟨_, rfl⟩
  have hsz : W2.heap.size = w.heap.size + 2 := by rw [← hW2]; simp
  have hbl : Below w.heap.size w W2 := by rw [← hW2]; exact ((Below.refl _ _).alloc (Nat.le_refl _) _).alloc (by simp) _
  obtain ⟨g0, g1, g2⟩ := act_box (w.alloc (.cells #[.int .i64 x0.kind, .int .i64 x0.n, .slice A0 m0 c0] 34)) (.int .i64 x0.kind) (.int .i64 x0.n) (.slice A0 m0 c0) 34
  rw [hW2] at g0 g1 g2
  rw [show (w.alloc (.cells #[.int .i64 x0.kind, .int .i64 x0.n, .slice A0 m0 c0] 34)).heap.size = w.heap.size + 1 from by simp] at g0 g1 g2
  have hbox : ∀ o : Nat, W2.cell? ⟨w.heap.size, o, none⟩ = (w.alloc (.cells #[.int .i64 x0.kind, .int .i64 x0.n, .slice A0 m0 c0] 34)).cell? ⟨w.heap.size, o, none⟩ := fun o => by
    rw [← hW2]; exact ((Below.refl _ (w.alloc (.cells #[.int .i64 x0.kind, .int .i64 x0.n, .slice A0 m0 c0] 34))).alloc (Nat.le_refl _) _).cell (by simp)
  have k0 : W2.cell? ⟨w.heap.size, 0, none⟩ = some (.int .i64 x0.kind) := (hbox 0).trans b0
  have k1 : W2.cell? ⟨w.heap.size, 1, none⟩ = some (.int .i64 x0.n) := (hbox 1).trans b1
  have k2 : W2.cell? ⟨w.heap.size, 2, none⟩ = some (.slice A0 m0 c0) := (hbox 2).trans b2
  have hact : ActOk W2 W2.heap.size x0 A0 m0 c0 := (H.out.below hbl).more hbl.size
  have hra : RdA W2 W2.heap.size (some ⟨w.heap.size + 1, 0, none⟩) 1 [x0] := ⟨rfl, fun _ => ⟨_, 0, rfl, by omega, fun j hj => by
    obtain rfl : j = 0 := by omega
    refine ⟨A0, m0, c0, fun i v hv => ?_, hact⟩
    match i, hv with
    | 0, hv => injection hv with hv; subst hv; exact g0
    | 1, hv => injection hv with hv; subst hv; exact g1
    | 2, hv => injection hv with hv; subst hv; exact g2
    | n + 3, hv => cases hv⟩⟩
  rw [hW2]
  have K0 := Lib.hid k0
  have K1 := Lib.hid k1
  have K2 := Lib.hid k2
  have HA := Lib.hid hact
  have SZ : Hid (W2.heap.size = w.heap.size + 2) := hsz
  have BL := Lib.hid hbl
  have RA := Lib.hid hra
  clear b0 b1 b2 g0 g1 g2 hbox k0 k1 k2 hact hra hsz hbl hW2
  refine (lGreat _ _ _ _ W2 RA.out (by decide)).mono ?_
  rintro e w3 ⟨gr, rfl, rfl, -⟩
  cases gr
  rotate_left 1
  · go_wp2_with fail
    go_ret
    exact ⟨rfl, BL.out⟩
  go_wp2_with fail
  obtain ⟨W4, hW4⟩ : ∃ X, (W2.alloc (.cells #[.slice none 0 0, .map none, .bool false, .int .i64 0, Value.nilFunc] 42)).alloc (.cells #[.pointer none, .pointer (some ⟨W2.heap.size, 0, none⟩)] 24) = X := ⟨_, rfl⟩
  have hbl : Below W2.heap.size W2 W4 := by rw [← hW4]; exact ((Below.refl _ _).alloc (Nat.le_refl _) _).alloc (by simp) _
  have hsz : W4.heap.size = W2.heap.size + 2 := by rw [← hW4]; simp
  have hd1 : W4.heap[W2.heap.size]? = some (.cells #[.slice none 0 0, .map none, .bool false, .int .i64 0, Value.nilFunc] 42 (0, 0)) := by
    rw [← hW4]
    exact (((Below.refl _ (W2.alloc (.cells #[.slice none 0 0, .map none, .bool false, .int .i64 0, Value.nilFunc] 42))).alloc (Nat.le_refl _) _).block _ (by simp)).trans (heap_alloc_last _ _)
  have hrow : W4.heap[W2.heap.size + 1]? = some (.cells #[.pointer none, .pointer (some ⟨W2.heap.size, 0, none⟩)] 24 (0, 0)) := by
    rw [← hW4]
    have h := heap_alloc_last (W2.alloc (.cells #[.slice none 0 0, .map none, .bool false, .int .i64 0, Value.nilFunc] 42)) (.cells #[.pointer none, .pointer (some ⟨W2.heap.size, 0, none⟩)] 24)
    rw [show (W2.alloc (.cells #[.slice none 0 0, .map none, .bool false, .int .i64 0, Value.nilFunc] 42)).heap.size = W2.heap.size + 1 from by simp] at h
    exact h
  have hl0 : ∀ k, k < 2 → ∃ p, W4.cell? ⟨W2.heap.size + 1, k, none⟩ = some p ∧ DkNo W4 p := fun k hk => by
    match k, hk with
    | 0, _ => exact ⟨_, by rw [cell_of_row _ _ _ _ _ _ hrow]; rfl, .none _⟩
    | 1, _ => exact ⟨_, by rw [cell_of_row _ _ _ _ _ _ hrow]; rfl, .fresh _ _ hd1⟩
  rw [hW4]
  have B4 := Lib.hid hbl
  have S4 := Lib.hid hsz
  have L0 := Lib.hid hl0
  replace BL : Hid (Below w.heap.size w W4) := BL.out.trans (hbl.mono BL.out.size)
  replace K1 : Hid (W4.cell? ⟨w.heap.size, 1, none⟩ = some (.int .i64 x0.n)) := (hbl.cell (by have := SZ.out; show w.heap.size < _; omega)).trans K1.out
  replace K2 : Hid (W4.cell? ⟨w.heap.size, 2, none⟩ = some (.slice A0 m0 c0)) := (hbl.cell (by have := SZ.out; show w.heap.size < _; omega)).trans K2.out
  clear hbl hsz hd1 hrow hl0 hW4 K0 RA HA H
  go_loopw [5] (fun i wr => ∃ k : Nat, k ≤ 2 ∧ i = .int .i64 (k : Int) ∧ Below W4.heap.size W4 wr) (fun i _ => 2 - (intOf i).toNat)
  case atStart => exact ⟨0, by omega, rfl, Below.refl _ _⟩
  case round =>
    obtain ⟨k, hk, rfl, hb⟩ := hrel
    have Bwr := Lib.hid hb
    have HK : Hid (k ≤ 2) := hk
    clear hb hk
    by_cases hlt : k < 2
    · have HLT : Hid (k < 2) := hlt
      obtain ⟨p, p0, p1⟩ := L0.out k hlt
      have y0 : wr.cell? ⟨W2.heap.size + 1, k, none⟩ = some p := (Bwr.out.cell (by have := S4.out; show W2.heap.size + 1 < _; omega)).trans p0
      have P := Lib.hid (p1.to Bwr.out)
      clear p0 p1
      have q1 : wr.cell? ⟨w.heap.size, 1, none⟩ = some (.int .i64 x0.n) := (Bwr.out.cell (by have := SZ.out; have := B4.out.size; show w.heap.size < _; omega)).trans K1.out
      have q2 : wr.cell? ⟨w.heap.size, 2, none⟩ = some (.slice A0 m0 c0) := (Bwr.out.cell (by have := SZ.out; have := B4.out.size; show w.heap.size < _; omega)).trans K2.out
      go_wp2_with fail
      refine (dReadNo p x0.n wr P.out).mono ?_
      rintro e w' ⟨rfl, rfl⟩
      go_wp2_with fail
      refine (dWriteNo p x0.n A0 m0 c0 wr P.out).mono ?_
      rintro e w6 ⟨rfl, hb⟩
      have Pw6 := Lib.hid (P.out.to hb)
      have Bw6 := Lib.hid (Bwr.out.trans (hb.mono Bwr.out.size))
      clear hb q1 q2 y0
      go_wp2_with fail
      refine (dFlushNo p w6 Pw6.out).mono ?_
      rintro e w7 ⟨rfl, hb⟩
      have Pw7 := Lib.hid (Pw6.out.to hb)
      have Bw7 := Lib.hid (Bw6.out.trans (hb.mono Bw6.out.size))
      clear hb 
      have q1 : w7.cell? ⟨w.heap.size, 1, none⟩ = some (.int .i64 x0.n) := (Bw7.out.cell (by have := SZ.out; have := B4.out.size; show w.heap.size < _; omega)).trans K1.out
      have q2 : w7.cell? ⟨w.heap.size, 2, none⟩ = some (.slice A0 m0 c0) := (Bw7.out.cell (by have := SZ.out; have := B4.out.size; show w.heap.size < _; omega)).trans K2.out
      go_wp2_with fail
      refine (dCrashNo p A0 m0 c0 w7 Pw7.out).mono ?_
      rintro e w' ⟨rfl, rfl⟩
      go_wp2_with fail
      refine (dArmNo p x0.n A0 m0 c0 w7 Pw7.out).mono ?_
      rintro e w' ⟨rfl, rfl⟩
      go_wp2_with fail
      refine (dStartNo p w7 Pw7.out).mono ?_
      rintro e w' ⟨rfl, rfl⟩
      go_wp2_with fail
      refine (dUpNo p w7 Pw7.out).mono ?_
      rintro e w' ⟨rfl, rfl⟩
      go_wp2_with fail
      refine (dLenNo p w7 Pw7.out).mono ?_
      rintro e w' ⟨rfl, rfl⟩
      go_wp2_with fail
      refine (dDirtyNo p w7 Pw7.out).mono ?_
      rintro e w9 ⟨rfl, hb⟩
      have Pw9 := Lib.hid (Pw7.out.to hb)
      have Bw9 := Lib.hid (Bw7.out.trans (hb.mono Bw7.out.size))
      clear hb q1 q2
      have q1 : w9.cell? ⟨w.heap.size, 1, none⟩ = some (.int .i64 x0.n) := (Bw9.out.cell (by have := SZ.out; have := B4.out.size; show w.heap.size < _; omega)).trans K1.out
      have q2 : w9.cell? ⟨w.heap.size, 2, none⟩ = some (.slice A0 m0 c0) := (Bw9.out.cell (by have := SZ.out; have := B4.out.size; show w.heap.size < _; omega)).trans K2.out
      go_wp2_with fail
      refine (dFlushedNo p x0.n w9 Pw9.out).mono ?_
      rintro e w' ⟨rfl, rfl⟩
      go_wp2_with fail
      go_roundw
      case rel => exact ⟨k + 1, HLT.out, by go_num, Bw9.out⟩
      case measure => have := HLT.out; simp [intOf]; omega
    · obtain rfl : 2 = k := by have := HK.out; omega
      go_wp2_with fail
      go_ret
      exact ⟨rfl, BL.out.trans (Bwr.out.mono BL.out.size)⟩

set_option maxRecDepth 100000 in
theorem lifted (os : Os) (started : os.Started) (H : Type) (enc : TypeId × Value → H) :
    ReturnsInHanded {} Try.checked os 4 .any (Rows.diskNilSpec.pre6 enc Try.prog Try.f4 Rows.diskNilRow.domain false) (Rows.diskNilSpec.post enc Try.prog Try.f4 false true false false) := by
  refine returnsInHanded_of_change_sized (C := Try.checked) own started (by kernel_rfl) Try.func4
    (ChangeSpec.witness6 (enc := enc) (C := Try.checked) false ⟨#[], #[.agg #[.int .i64 0, .int .i64 0, .slice none 0 0]], []⟩ 8 (by kernel_rfl) (by kernel_rfl) (by kernel_rfl) (by kernel_rfl)) ?_
  intro W base args ds gs before hval0 hW hcnd hsz0 _
  have hval : ∀ (j : Nat) t v, Try.f4.params[j]? = some t → args[j]? = some v → Value.okWide Try.prog W .any base t v := hval0
  have hsz : (DataW.weightsEach Try.prog (Try.f4.params.toList ++ Rows.diskNilSpec.plain.varTypes Try.prog) (ds ++ gs)).all (· ≤ reachBytes) = true := hsz0
  have hW' := hW
  obtain ⟨p, q, hA0, hV, rfl, hfz, hnd⟩ := hW
  have hA : DataW.TrodAll enc Try.prog W 0 (fun _ => true) true Try.f4.params.toList args.toList ds p := hA0
  rw [Try.params4] at hA hval hsz
  obtain ⟨v0, vs0, d0, ds0, p0, q0, hargs, rfl, rfl, h0, r0⟩ := trodAll_cons hA
  obtain ⟨rfl, rfl, rfl⟩ := trodAll_nil r0
  obtain rfl : args = #[v0] := by cases args; simp_all
  obtain ⟨rfl, rfl⟩ := trodVars_none hV
  have sz0 : ∀ x ∈ d0.weights Try.prog 34, x ≤ reachBytes := fun x hx => by simpa using List.all_eq_true.1 hsz _ (DataW.weights_mem_each (j := 0) rfl rfl x hx)
  have k0 := h0
  have lt0 : ∀ x ∈ p0, x.block < W.heap.size := by obtain ⟨m, hm⟩ := k0; exact DataW.trod_lt m _ _ _ hm
  obtain ⟨x0, A0, m0, c0, rfl, w0⟩ := open_act (hval 0 34 v0 rfl rfl) h0 sz0
  clear hA0 hval0
  refine (walk x0 A0 m0 c0 W w0).mono fun e W' ⟨he, bel⟩ => ?_
  subst he
  exact ⟨_, rfl, _, _, _, [], _, [], hW', trodAll_mk1 (shut_bool Try.underlying4 _), (trodAll_cons_mk (Below.trod laidOut (by kernel_rfl) (of_decide_eq_true (by kernel_rfl)) k0 bel lt0) trodAll_mk0), rfl, bel.frame _, fun h => by cases h⟩

theorem over : Rows.diskNilRow.holds Try.pinned (OpenSpec.ofChange Rows.diskNilSpec) :=
  OpenClaim.holds_of_wide 4 Try.f4 rfl rfl rfl rfl rfl rfl rfl ⟨rfl, rfl, rfl, rfl, rfl⟩ rfl rfl rfl rfl rfl (by kernel_rfl) Try.func4 (by kernel_rfl)
    (of_decide_eq_true (by kernel_rfl)) (by unfold Func.isWrapper; first | (rw [if_pos (by decide +kernel)]; kernel_rfl) | (rw [if_neg (by decide +kernel)]; exact ⟨rfl, rfl⟩))
    (fun os started H enc _ => lifted os started H enc)

theorem proved : Rows.DiskNilSaid := over
end Go.Proofs.Ytbkdgciaapkemaa.diskNil
