/- The laws' own helpers of layer 10, part two: copied. -/
import Derived.Test.YtkaobafgecoomaaChL
namespace Go.Proofs.Ytkaobafgecoomaa
open Go.RowKit
set_option linter.unusedVariables false
set_option linter.unusedSimpArgs false

set_option maxRecDepth 1000000 in
set_option maxHeartbeats 1000000 in
theorem lCopied (a b d e s : Int) (A : Option Addr) (n c : Nat) (l : List (List UInt8)) (w : World) (hS : RdS w w.heap.size A n l) (hn : n ≤ 20) (hl : ∀ m ∈ l, m.length ≤ 400) :
    Calls Try.prog 10 #[.agg #[.int .i64 a, .int .i64 b, .int .i64 d, .int .i64 e, .int .i64 s, .slice A n c]] w fun x w' => CopR w ⟨a, b, d, e, s⟩ n l x w' := by
  obtain ⟨w2, hw2, hq, hz, hb, hsz⟩ := two_queues w a b d e s (.slice A n c)
  have HW2 := Lib.hid hw2
  have Q := Lib.hid hq
  have Z := Lib.hid hz
  have B := Lib.hid hb
  have S := Lib.hid (hS.toX hb)
  have HN := Lib.hid hn
  have HL := Lib.hid hl
  have HLL := Lib.hid hS.1
  have SZ := Lib.hid hsz
  clear hw2 hq hz hb hS hn hl hsz
  go_enter Try.func10, Try.ntmps10
  go_wp2_with fail
  rw [HW2.out]
  clear HW2
  go_loopw [3, 4, 5] (fun s3 s4 _ wr => ∃ (k : Nat), k ≤ n ∧ s4 = .int .i64 (k : Int) ∧ RowsX wr (w.heap.size + 2) s3 k ((l.take k).map tailR) ∧ Below w2.heap.size w2 wr) (fun _ s4 _ _ => n - (intOf s4).toNat)
  case atStart => exact ⟨0, Nat.zero_le _, rfl, RowsX.nil _ _, Below.refl _ _⟩
  case round =>
    obtain ⟨k, hk, rfl, hx, hb⟩ := hrel
    have X := Lib.hid hx
    have B4 := Lib.hid hb
    have QR := Lib.hid (Q.out.below (by have := SZ.out; omega) hb)
    have HB4 : Hid (w.heap.size + 2 ≤ wr.heap.size) := by show _ ≤ _; rw [← SZ.out]; exact hb.size
    obtain ⟨A0, c0, rfl, hc0, hc0'⟩ := hx.slice
    have HC0 := Lib.hid hc0
    have HC0' := Lib.hid hc0'
    clear hx hb hc0 hc0'
    obtain ⟨x0, x1, x2, x3, x4, x5⟩ := QR.out.six
    by_cases hlt : k < n
    · have hltI : (k : Int) < (n : Int) := by omega
      have HLT : Hid (k < n) := hlt
      have hwk : IntKind.i64.wrap ((k : Int) + 1) = (k : Int) + 1 := by have := HN.out; rw [IntKind.wrap_i64]; omega
      obtain ⟨bb, o, A1, m1, c1, rfl, hcell, hrd⟩ := ((S.out.belowX B4.out).moreX B4.out.size).at_ hlt
      have HM1 : Hid (m1 ≤ 400) := by
        show _ ≤ _
        rw [← hrd.1]
        have hkl : k < l.length := by rw [S.out.1]; exact hlt
        refine HL.out _ ?_
        rw [show l.getD k [] = l[k] from by simp [List.getD, List.getElem?_eq_getElem hkl]]
        exact List.getElem_mem hkl
      obtain ⟨A5, c5, w5, hrun5, hb5, A6, c6, w6, hrun6, ho, h1, h2, hb6⟩ := tail_row 27 (c := c1) hrd (by have := HM1.out; omega)
      have hm1 : (l.getD k []).length = m1 := hrd.1
      obtain ⟨A7, c7, w7, hrun7, hx7, hk7⟩ := push_any (x := tailR (l.getD k [])) 24 X.out HB4.out (by show OwR w6 _ A6 (l.getD k [] ++ [99]).length (l.getD k [] ++ [99]); rw [List.length_append, hm1]; exact ho) (by simp [tailR]) (by simp only [tailR, List.length_append, hm1]; exact h1) h2 hb6 (by have := HLT.out; have := HN.out; omega)
      have RUN5 := Lib.hid hrun5
      have RUN6 := Lib.hid hrun6
      have RUN7 : Hid ((Builtin.append_ #[24, 24] 24 #[.slice A0 k c0, .slice (some ⟨w6.heap.size, 0, none⟩) 1 1]).run Try.prog (w6.alloc (.cells #[.slice A6 m1 c6] 27)) = .ok (.slice A7 (k + 1) c7) w7) := by
        show _ = _; rw [← hm1]; exact hrun7
      have X7 := Lib.hid hx7
      have K7 := Lib.hid hk7
      have HS1 : Hid (∀ W : World, (Instr.slice 27 (.slice A6 (m1 + 1) c6) none (some (.int .i64 (m1 : Int))) none).run Try.prog W = .ok (.slice A6 m1 c6) W) := fun W => slice_h isU8 A6 (n := m1 + 1) (c := c6) (h := m1) (by omega) h1 .i64 W
      have hcl6 : ∀ W, Below wr.heap.size wr W → W.cell? ⟨w.heap.size, 5, none⟩ = some (.slice (some ⟨bb, o, none⟩) n c) ∧ W.cell? ⟨bb, o + k, none⟩ = some (.slice A1 m1 c1) := fun W hW =>
        ⟨(hW.cell (p := ⟨_, _, none⟩) (cell_block x5)).trans x5, (hW.cell (p := ⟨_, _, none⟩) (cell_block hcell)).trans hcell⟩
      have HC6 := Lib.hid (hcl6 w6 hb6)
      obtain ⟨y5, y6⟩ := hcl6 (wr.alloc (.cells #[] 5)) ((Below.refl _ _).alloc (Nat.le_refl _) _)
      clear hrd hk hlt hrun5 hb5 hrun6 ho h1 h2 hrun7 hx7 hk7 hcl6
      go_wp2_with (first
        | (at_builtin; refine wpList_append_run rfl (.tmp 13) (.tmp 18) rfl rfl rfl RUN5.out ?_)
        | (at_builtin; refine wpList_append_run rfl (.tmp 19) (.tmp 20) rfl rfl rfl RUN6.out ?_; obtain ⟨z5, z6⟩ := HC6.out; have hs1 := HS1.out)
        | (at_builtin; refine wpList_append_run rfl (.tmp 22) (.tmp 31) rfl rfl rfl RUN7.out ?_))
      go_roundw
      case rel => exact ⟨k + 1, HLT.out, by go_num, by rw [take_tails (by rw [S.out.1]; exact HLT.out)]; exact X7.out, K7.out.below B4.out B4.out.size (fun b h => by have := SZ.out; omega)⟩
      case measure => have := HLT.out; simp [intOf]; omega
    · obtain rfl : k = n := by omega
      have hltI : ¬ (k : Int) < (k : Int) := by omega
      have HT : Hid (l.take k = l) := by show _ = _; rw [← S.out.1]; exact List.take_length
      replace X : Hid (RowsX wr (w.heap.size + 2) (.slice A0 k c0) k (l.map tailR)) := by have := X.out; rw [HT.out] at this; exact this
      have hb6 := (Below.refl wr.heap.size wr).alloc (Nat.le_refl _) (.cells #[.int .u8 98] 5)
      have ho : OwR (wr.alloc (.cells #[.int .u8 98] 5)) wr.heap.size (some ⟨wr.heap.size, 0, none⟩) 1 [98] := OwR.of_own (own_top (w := wr) (B := wr.heap.size) [.int .u8 98] 5 (Nat.le_refl _) (by simp [Value.oneCell']) (by decide))
      obtain ⟨A7, c7, w7, hrun7, hx7, hk7⟩ := push_any (x := lastR) (c1 := 1) 24 X.out HB4.out ho (Nat.le_refl _) (Nat.le_refl _) (by decide) hb6 (by have := HN.out; omega)
      have RUN7 : Hid ((Builtin.append_ #[24, 24] 24 #[.slice A0 k c0, .slice (some ⟨(wr.alloc (.cells #[.int .u8 98] 5)).heap.size, 0, none⟩) 1 1]).run Try.prog ((wr.alloc (.cells #[.int .u8 98] 5)).alloc (.cells #[.slice (some ⟨wr.heap.size, 0, none⟩) 1 1] 27)) = .ok (.slice A7 (k + 1) c7) w7) := hrun7
      rw [show (wr.alloc (.cells #[.int .u8 98] 5)).heap.size = wr.heap.size + 1 from by simp] at RUN7
      have X7 := Lib.hid hx7
      have K7 := Lib.hid hk7
      have Z7 := Lib.hid ((Z.out.below (by have := SZ.out; omega) B4.out).kept hk7 (fun h => by omega))
      have Q7 := Lib.hid (QR.out.kept hk7 (fun h => by omega))
      have B7 := Lib.hid (hk7.below B4.out B4.out.size (fun b h => by have := SZ.out; omega))
      obtain ⟨hc7, hc7'⟩ : k + 1 ≤ c7 ∧ c7 ≤ 9223372036854775807 := by
        obtain ⟨A9, c9, e9, h9, h9'⟩ := hx7.slice
        injection e9 with _ _ e9
        subst e9; exact ⟨h9, h9'⟩
      have HC7 := Lib.hid hc7
      have HC7' := Lib.hid hc7'
      have HS7 : Hid (∀ W : World, (Instr.slice 24 (.slice A7 (k + 1) c7) none (some (.int .i64 (k : Int))) none).run Try.prog W = .ok (.slice A7 k c7) W) := fun W => slice_hc (T := 24) (U := 27) Try.underlying24 slices_size A7 (n := k + 1) (h := k) (by omega) .i64 W
      clear hk hlt hb6 ho hrun7 hx7 hk7 hc7 hc7'
      go_wp2_with (at_builtin; refine wpList_append_run rfl (.tmp 33) (.tmp 35) rfl rfl rfl RUN7.out ?_)
      clear x0 x1 x2 x3 x4 x5
      refine AnyE.start (m := 8) (S := (fun w' => w'.cell? ⟨w.heap.size, 0, none⟩ = some (.int .i64 a) ∧ w'.cell? ⟨w.heap.size, 1, none⟩ = some (.int .i64 b) ∧ w'.cell? ⟨w.heap.size, 2, none⟩ = some (.int .i64 d) ∧ w'.cell? ⟨w.heap.size, 3, none⟩ = some (.int .i64 e) ∧ w'.cell? ⟨w.heap.size, 4, none⟩ = some (.int .i64 s) ∧ w'.cell? ⟨w.heap.size, 5, none⟩ = some (.slice A k c))) (by kernel_rfl) (Q7.out.six) (fun hHeld => ?_)
      obtain ⟨wd, hwd⟩ : ∃ wd, w7.drew = wd := ⟨_, rfl⟩
      replace Z7 : Hid (QB wd (w.heap.size + 1) Ch.zero (.slice none 0 0)) := by rw [← hwd]; exact Z7.out
      replace X7 : Hid (RowsX wd (w.heap.size + 2) (.slice A7 (k + 1) c7) (k + 1) (l.map tailR ++ [lastR])) := by rw [← hwd]; exact X7.out
      replace B7 : Hid (Below w2.heap.size w2 wd) := by rw [← hwd]; exact B7.out.drew
      rw [hwd] at hHeld ⊢
      clear hwd
      refine AnyE.take (i := 0) (v := ?_) rfl (by kernel_rfl) (by kernel_rfl) (by kernel_rfl) (by kernel_rfl) (fun _ _ _ h => h) (Or.inl ⟨by rfl, ?_⟩) (by assumption) ?_
      rotate_left 1
      · intro w hSw; (try dsimp only at hSw); go_simp; (try with_reducible rfl)
      simp only [Act.put, List.getElem_toArray, List.getElem_cons_zero, List.getElem_cons_succ, List.setIfInBounds_toArray, List.set_cons_zero, List.set_cons_succ]
      refine AnyE.take (i := 1) (v := ?_) rfl (by kernel_rfl) (by kernel_rfl) (by kernel_rfl) (by kernel_rfl) (fun _ _ _ h => h) (Or.inl ⟨by rfl, ?_⟩) (by assumption) ?_
      rotate_left 1
      · intro w hSw; (try dsimp only at hSw); go_simp; (try with_reducible rfl)
      simp only [Act.put, List.getElem_toArray, List.getElem_cons_zero, List.getElem_cons_succ, List.setIfInBounds_toArray, List.set_cons_zero, List.set_cons_succ]
      refine AnyE.take (i := 2) (v := ?_) rfl (by kernel_rfl) (by kernel_rfl) (by kernel_rfl) (by kernel_rfl) (fun _ _ _ h => h) (Or.inl ⟨by rfl, ?_⟩) (by assumption) ?_
      rotate_left 1
      · intro w hSw; (try dsimp only at hSw); go_simp; (try with_reducible rfl)
      simp only [Act.put, List.getElem_toArray, List.getElem_cons_zero, List.getElem_cons_succ, List.setIfInBounds_toArray, List.set_cons_zero, List.set_cons_succ]
      refine AnyE.take (i := 3) (v := ?_) rfl (by kernel_rfl) (by kernel_rfl) (by kernel_rfl) (by kernel_rfl) (fun _ _ _ h => h) (Or.inl ⟨by rfl, ?_⟩) (by assumption) ?_
      rotate_left 1
      · intro w hSw; (try dsimp only at hSw); go_simp; (try with_reducible rfl)
      simp only [Act.put, List.getElem_toArray, List.getElem_cons_zero, List.getElem_cons_succ, List.setIfInBounds_toArray, List.set_cons_zero, List.set_cons_succ]
      refine AnyE.take (i := 4) (v := ?_) rfl (by kernel_rfl) (by kernel_rfl) (by kernel_rfl) (by kernel_rfl) (fun _ _ _ h => h) (Or.inl ⟨by rfl, ?_⟩) (by assumption) ?_
      rotate_left 1
      · intro w hSw; (try dsimp only at hSw); go_simp; (try with_reducible rfl)
      simp only [Act.put, List.getElem_toArray, List.getElem_cons_zero, List.getElem_cons_succ, List.setIfInBounds_toArray, List.set_cons_zero, List.set_cons_succ]
      refine AnyE.take (i := 5) (v := ?_) rfl (by kernel_rfl) (by kernel_rfl) (by kernel_rfl) (by kernel_rfl) (fun _ _ _ h => h) (Or.inl ⟨by rfl, ?_⟩) (by assumption) ?_
      rotate_left 1
      · intro w hSw; (try dsimp only at hSw); go_simp; (try with_reducible rfl)
      simp only [Act.put, List.getElem_toArray, List.getElem_cons_zero, List.getElem_cons_succ, List.setIfInBounds_toArray, List.set_cons_zero, List.set_cons_succ]
      have hs7 := HS7.out
      refine AnyE.take (i := 6) (v := ?_) rfl (by kernel_rfl) (by kernel_rfl) (by kernel_rfl) (by kernel_rfl) (fun _ _ _ h => h) (Or.inl ⟨by rfl, ?_⟩) (by assumption) ?_
      rotate_left 1
      · intro w hSw; (try dsimp only at hSw); go_simp; (try with_reducible rfl)
      simp only [Act.put, List.getElem_toArray, List.getElem_cons_zero, List.getElem_cons_succ, List.setIfInBounds_toArray, List.set_cons_zero, List.set_cons_succ]
      refine AnyE.take (i := 7) (v := ?_) rfl (by kernel_rfl) (by kernel_rfl) (by kernel_rfl) (by kernel_rfl) (fun _ _ _ h => h) (Or.inl ⟨by rfl, ?_⟩) (by assumption) ?_
      rotate_left 1
      · intro w hSw; (try dsimp only at hSw); go_simp; (try with_reducible rfl)
      simp only [Act.put, List.getElem_toArray, List.getElem_cons_zero, List.getElem_cons_succ, List.setIfInBounds_toArray, List.set_cons_zero, List.set_cons_succ]
      obtain ⟨r0, r1, r2, r3, r4, r5⟩ := Z7.out.qx.six
      obtain ⟨f0, f1, f2, f3, f4, f5⟩ := Z7.out.zeros
      refine AnyE.ready (rs := [8]) (by kernel_rfl) (by simp) ?_
      refine ReadyE.last rfl (by kernel_rfl) (fun K hK => ?_)
      go_simp
      refine hK.out _ _ trivial (fun _ => ?_)
      clear hK K
      refine AnyE.done (by kernel_rfl) ?_ _
      clear hs7 r0 r1 r2 r3 r4 r5 f0 f1 f2 f3 f4 f5
      have P9 := Z7.out.put ⟨a, b, d, e, s⟩ (.slice A7 k c7)
      have S9 := below_setQ (B.out.trans (B7.out.mono (by have := SZ.out; omega))) (Nat.le_succ w.heap.size) ⟨a, b, d, e, s⟩ (.slice A7 k c7)
      have K9 := (Keep.refl (fun b => b = w.heap.size + 1) wd).setQ _ ⟨a, b, d, e, s⟩ (.slice A7 k c7) rfl
      have O9 := ((OwS.of X7.out).kept K9 (fun b h => by omega)).mono (show w.heap.size ≤ w.heap.size + 2 by omega)
      go_wp2_with fail
      change bodyPost _ _ _ _ _ (setQ wd (w.heap.size + 1) ⟨a, b, d, e, s⟩ (.slice A7 k c7))
      generalize setQ wd (w.heap.size + 1) ⟨a, b, d, e, s⟩ (.slice A7 k c7) = w9 at *
      exact bodyPost_ret (results_cell_row rfl _ _ (w.heap.size + 1) 26 (quA ⟨a, b, d, e, s⟩ (.slice A7 k c7)) (0, 0) _ rfl P9 Try.underlying26 rfl queue_info) rfl ⟨A7, c7, rfl, O9, HC7.out, HC7'.out, S9⟩
end Go.Proofs.Ytkaobafgecoomaa
