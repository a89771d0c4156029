/- The document's disk (citadelref06): the cached sectors' numbers; a flush; a write; a new one. -/
import Derived.Test.YtbkdgciaapkemaaDiskT
namespace Go.Proofs.Ytbkdgciaapkemaa
open Go.RowKit
set_option linter.unusedVariables false
set_option linter.unusedSimpArgs false

theorem isInts : KT Try.prog 51 3 .i64 8 := ⟨Try.underlying51, by kernel_rfl, by decide⟩
def DirRel (w : World) (L : List Sec) (v i : Value) (wr : World) : Prop :=
  ∃ k, k ≤ L.length ∧ i = .int .i64 (k : Int) ∧ wr.ownsRow w.heap.size 3 1 v (dirtyL (L.take k)).length ((dirtyL (L.take k)).map (kv .i64)) ∧ Below w.heap.size w wr
set_option maxRecDepth 1000000 in
set_option maxHeartbeats 1000000 in
theorem qDirty (r : Nat) (F : Nat → Prop) (s : DS) (w : World) (h : DrAt w r F s) : Calls Try.prog 30 #[.pointer (some ⟨r, 0, none⟩)] w fun e w' =>
    ∃ A c, e = .returned (.slice A (dirtyL s.L).length c) ∧ w'.ownsRow w.heap.size 3 1 (.slice A (dirtyL s.L).length c) (dirtyL s.L).length ((dirtyL s.L).map (kv .i64)) ∧ Below w.heap.size w w' := by
  obtain ⟨lb, cap, vs, A, m, c, hP⟩ := h
  have H := Lib.hid hP
  clear hP
  go_enter Try.func30, Try.ntmps30
  go_wp2_with fail
  go_loopw [3, 4] (fun v i wr => DirRel w s.L v i wr) (fun _ i _ => s.L.length - (intOf i).toNat)
  case atStart => exact ⟨0, Nat.zero_le _, rfl, ⟨rfl, .inl ⟨rfl, rfl⟩⟩, Below.refl _ _⟩
  case round =>
    obtain ⟨k, hk, rfl, hown, hb⟩ := hrel
    have HP := Lib.hid (H.out.to hb)
    obtain ⟨c0, _, _, _, _, _, _, _⟩ := drCell HP.out.obj
    have O1 := Lib.hid hown
    have B1 := Lib.hid hb
    have HK := Lib.hid hk
    have HN := Lib.hid H.out.ok.len
    obtain ⟨A1, c1, rfl⟩ := own_slice hown
    clear hown hb hk
    by_cases hlt : k < s.L.length
    · have HLT : Hid (k < s.L.length) := hlt
      obtain ⟨d0, d1, z0, z1⟩ := HP.out.cell hlt
      obtain ⟨e0, e1, e2⟩ := HP.out.sec k hlt
      have q := u8_some
      have hkI : (k : Int) < 1025 := by have := HN.out; omega
      have hkn : (k : Int) < (s.L.length : Int) := by omega
      have HD := Lib.hid (dirtyL_snoc hlt)
      have HDL : Hid ((dirtyL (s.L.take k)).length ≤ 1024) := by have := rank_le s.L k; have := HN.out; unfold rank at *; show _ ≤ _; omega
      cases hc : (secAt s.L k).2 with
      | none =>
        have HC := Lib.hid hc
        rw [e1 hc] at d1
        clear e0 e1 e2 hc d0 z0 z1
        go_wp2_with fail
        go_roundw
        case rel =>
          have h1 := HD.out
          rw [HC.out] at h1
          simp only [Option.isSome_none, Bool.false_eq_true, if_false, List.append_nil] at h1
          exact ⟨k + 1, HLT.out, by go_num, by rw [h1]; exact O1.out, B1.out⟩
        case measure => have := HLT.out; simp [intOf]; omega
      | some bs =>
        have HC := Lib.hid hc
        obtain ⟨b0, o0, cc, ev, _, _, _, _⟩ := e2 bs hc
        rw [ev] at d1
        clear e0 e1 e2 hc d0 z0 z1 ev
        generalize hdl : (dirtyL (s.L.take k)).length = n at *
        have HDLN := Lib.hid hdl
        clear hdl
        go_wp2_with (at_builtin; refine wpList_pushK isInts rfl (.tmp 23) (.tmp 25) rfl rfl rfl O1.out B1.out B1.out.size (by have := HDL.out; omega) k rfl ?_; intro v2 w2 hown2 hb2 hs2)
        have O2 := Lib.hid hown2
        have B2 := Lib.hid hb2
        clear hown2 hb2 hs2
        go_wp2_with fail
        go_roundw
        case rel =>
          have h1 := HD.out
          rw [HC.out] at h1
          simp only [Option.isSome_some, if_true] at h1
          refine ⟨k + 1, HLT.out, by go_num, ?_, B2.out⟩
          rw [h1, List.length_append, HDLN.out]
          exact O2.out
        case measure => have := HLT.out; simp [intOf]; omega
    · obtain rfl : k = s.L.length := by have := HK.out; omega
      have hkI : (s.L.length : Int) < 1025 := by have := HN.out; omega
      go_wp2_with fail
      go_ret
      have h1 := O1.out
      rw [List.take_length] at h1
      refine ⟨A1, c1, ?_, h1, B1.out⟩
      show Ending.returned (.slice A1 (dirtyL (s.L.take s.L.length)).length c1) = _
      rw [List.take_length]
/-- Behind k rounds of a flush. -/
def FlRel (w : World) (r lb cap : Nat) (A : Option Addr) (m c : Nat) (F : Nat → Prop) (s : DS) (i : Value) (wr : World) : Prop :=
  ∃ k vs, k ≤ s.L.length ∧ i = .int .i64 (k : Int) ∧ DrP wr r lb cap vs A m c F ⟨fallTo (fun _ => true) s.L k, s.up, s.left, s.stay⟩ ∧ Keep (· = lb) w wr
theorem fell_up {s : DS} (h : ¬ s.left = 1) : s.fell = ⟨s.L, s.up, s.left - 1, s.stay⟩ := by unfold DS.fell; rw [if_neg h]
set_option maxRecDepth 1000000 in
set_option maxHeartbeats 1000000 in
theorem qFlush (r : Nat) (F : Nat → Prop) (s : DS) (w : World) (h : DrAt w r F s) : Calls Try.prog 34 #[.pointer (some ⟨r, 0, none⟩)] w (DrTo w r F s.flush) := by
  have HFA := Lib.hid (qFalls r F s w h)
  have H := Lib.hid h
  obtain ⟨lb0, cap0, vs0, A0, m0, c00, hP⟩ := h
  obtain ⟨_, c1, _, _, _, _, _, _⟩ := drCell hP.obj
  clear hP
  go_enter Try.func34, Try.ntmps34
  cases hu : s.up
  · have HU := Lib.hid hu
    rw [hu] at c1
    clear hu
    go_wp2_with fail
    go_ret
    rw [DS.flush, HU.out, if_pos rfl]
    exact DrTo.same H.out
  have HU := Lib.hid hu
  rw [hu] at c1
  clear hu
  by_cases h1 : s.left = 1
  · have HL := Lib.hid h1
    have e1 : decide (s.left = 1) = true := by simp [h1]
    rw [e1] at HFA
    clear h1 e1
    go_wp2_with fail
    refine (HFA.out).mono ?_
    rintro e w1 ⟨rfl, hd, hk⟩
    have D1 := Lib.hid hd
    have K1 := Lib.hid hk
    clear hd hk
    go_wp2_with fail
    go_ret
    rw [show s.flush = (60, s.fall (selB s.stay)) from by unfold DS.flush; rw [if_neg (c := s.up = false) (by rw [HU.out]; decide), if_pos HL.out]]
    have e : s.fell = s.fall (selB s.stay) := by unfold DS.fell; rw [if_pos HL.out]
    rw [e] at D1
    exact ⟨rfl, F, D1.out, fun _ hk => .inl hk, K1.out⟩
  · have HL : Hid (¬ s.left = 1) := h1
    have e1 : decide (s.left = 1) = false := by simp [h1]
    rw [e1] at HFA
    clear h1 e1
    go_wp2_with fail
    refine (HFA.out).mono ?_
    rintro e w1 ⟨rfl, hd, hk⟩
    rw [fell_up HL.out] at hd
    obtain ⟨lb, cap, vs, A, m, c, hP⟩ := hd
    obtain ⟨s1, hs1⟩ : ∃ s1 : DS, (⟨s.L, s.up, s.left - 1, s.stay⟩ : DS) = s1 := ⟨_, rfl⟩
    have HS1 := Lib.hid hs1
    rw [hs1] at hP
    have H1 := Lib.hid hP
    have K1 := Lib.hid hk
    have HFL : Hid (s.flush = (0, ⟨fallL (fun _ => true) 0 s1.L, s1.up, s1.left, s1.stay⟩)) := by
      show _ = _
      unfold DS.flush
      rw [if_neg (c := s.up = false) (by rw [HU.out]; decide), if_neg (by exact HL.out), ← hs1]
      rfl
    clear hP hk hs1 c1 H HFA HS1
    go_wp2_with fail
    go_loopw [3] (fun i wr => FlRel w1 r lb cap A m c F s1 i wr) (fun i _ => s1.L.length - (intOf i).toNat)
    case atStart => exact ⟨0, vs, Nat.zero_le _, rfl, by rw [fallTo_zero]; exact H1.out, Keep.refl _ _⟩
    case round =>
      obtain ⟨k, vs', hk, rfl, hp, hkeep⟩ := hrel
      have HP := Lib.hid hp
      have K2 := Lib.hid hkeep
      have HK := Lib.hid hk
      obtain ⟨c0, c1, c2, c3, _, _, _, _⟩ := drCell hp.obj
      simp only [fallTo_length] at c0
      have HN := Lib.hid hp.ok.len
      clear c1 c2 c3
      by_cases hlt : k < s1.L.length
      · have HLT : Hid (k < s1.L.length) := hlt
        obtain ⟨d0, d1, z0, z1⟩ := hp.cell (i := k) (by simp only [fallTo_length]; exact hlt)
        obtain ⟨e0, e1, e2⟩ := hp.sec k (by simp only [fallTo_length]; exact hlt)
        simp only [fallTo_at _ hlt] at e0 e1 e2
        have q := u8_some
        have hkI : (k : Int) < 1025 := by have := HN.out; simp only [fallTo_length] at this; omega
        have hkn : (k : Int) < (s1.L.length : Int) := by omega
        cases hc : (secAt s1.L k).2 with
        | none =>
          have HC := Lib.hid hc
          rw [e1 hc] at d1
          clear e0 e1 e2 hp hkeep hk d0 z0 z1 hc
          go_wp2_with fail
          go_roundw
          case rel => exact ⟨k + 1, vs', HLT.out, by go_num, by rw [fallTo_same _ HLT.out HC.out]; exact HP.out, K2.out⟩
          case measure => have := HLT.out; simp [intOf]; omega
        | some bs =>
          have HC := Lib.hid hc
          have HE2 := Lib.hid (e2 bs hc)
          obtain ⟨b0, o0, cc, ev, _, _, _, _⟩ := e2 bs hc
          rw [ev] at d1
          have HV0 : Hid ((vAt vs' k).2 = .slice (some ⟨b0, o0, none⟩) 64 cc) := ev
          have HSL0 : Hid (DrSl wr r lb F (.slice (some ⟨b0, o0, none⟩) 64 cc) bs) := by rw [← ev]; exact HE2.out
          have HCL := Lib.hid (H1.out.ok.secC hlt hc)
          clear e0 e1 e2 hp hkeep hk hc ev
          go_wp2_with fail
          replace HP : Hid (DrP wr.drew r lb cap vs' A m c F ⟨fallTo (fun _ => true) s1.L k, s1.up, s1.left, s1.stay⟩) := HP.out.kept (R := fun _ => False) (Keep.refl _ _).drew (fun _ _ h => h)
          replace K2 := Lib.hid K2.out.drew
          replace HSL0 : Hid (DrSl wr.drew r lb F (.slice (some ⟨b0, o0, none⟩) 64 cc) bs) := HSL0.out.block (Nat.le_refl _) (fun _ _ _ _ => rfl)
          clear c0 d0 d1 z0 z1 HE2
          generalize hwd : wr.drew = wd at *
          have HWD := Lib.hid hwd
          clear hwd
          obtain ⟨c0, _, _, _, _, _, _, _⟩ := drCell HP.out.obj
          simp only [fallTo_length] at c0
          obtain ⟨d0, d1, z0, z1⟩ := HP.out.cell (i := k) (by simp only [fallTo_length]; exact HLT.out)
          rw [HV0.out] at d1
          have C0 := Lib.hid c0
          have D1 := Lib.hid d1
          have HRL : Hid (r ≠ lb) := HP.out.rl
          refine wp_region_held_drew (S := (fun w' => w'.cell? ⟨r, 0, none⟩ = some (.slice (some ⟨lb, 0, none⟩) s1.L.length cap) ∧ w'.cell? ⟨lb, k * 2 + 1, none⟩ = some (.slice (some ⟨b0, o0, none⟩) 64 cc))) (by kernel_rfl) ((by rw [HWD.out]; exact ⟨C0.out, D1.out⟩)) (fun hHeld => ?_)
          rw [HWD.out] at hHeld ⊢
          refine wpAnyH_take (i := 0) (v := ?_) rfl (by kernel_rfl) (by kernel_rfl) (by kernel_rfl) (fun _ _ _ h => h) (Or.inl ⟨by rfl, ?_⟩) (by assumption) ?_
          rotate_left 1
          · intro w hSw; (try dsimp only at hSw); go_simp; (try with_reducible rfl)
          simp only [Act.put, List.getElem_toArray, List.getElem_cons_zero, List.getElem_cons_succ, List.setIfInBounds_toArray, List.set_cons_zero, List.set_cons_succ]
          refine wpAnyH_take (i := 1) (v := ?_) rfl (by kernel_rfl) (by kernel_rfl) (by kernel_rfl) (fun _ _ _ h => h) (Or.inl ⟨by rfl, ?_⟩) (by assumption) ?_
          rotate_left 1
          · intro w hSw; (try dsimp only at hSw); go_simp; (try with_reducible rfl)
          simp only [Act.put, List.getElem_toArray, List.getElem_cons_zero, List.getElem_cons_succ, List.setIfInBounds_toArray, List.set_cons_zero, List.set_cons_succ]
          refine wpAnyH_take (i := 2) (v := ?_) rfl (by kernel_rfl) (by kernel_rfl) (by kernel_rfl) (fun _ _ _ h => h) (Or.inl ⟨by rfl, ?_⟩) (by assumption) ?_
          rotate_left 1
          · intro w hSw; (try dsimp only at hSw); go_simp; (try with_reducible rfl)
          simp only [Act.put, List.getElem_toArray, List.getElem_cons_zero, List.getElem_cons_succ, List.setIfInBounds_toArray, List.set_cons_zero, List.set_cons_succ]
          refine wpAnyH_take (i := 3) (v := ?_) rfl (by kernel_rfl) (by kernel_rfl) (by kernel_rfl) (fun _ _ _ h => h) (Or.inl ⟨by rfl, ?_⟩) (by assumption) ?_
          rotate_left 1
          · intro w hSw; (try dsimp only at hSw); (have x := hSw.1); clear hSw; go_simp; (try with_reducible rfl)
          simp only [Act.put, List.getElem_toArray, List.getElem_cons_zero, List.getElem_cons_succ, List.setIfInBounds_toArray, List.set_cons_zero, List.set_cons_succ]
          refine wpAnyH_take (i := 4) (v := ?_) rfl (by kernel_rfl) (by kernel_rfl) (by kernel_rfl) (fun _ _ _ h => h) (Or.inl ⟨by rfl, ?_⟩) (by assumption) ?_
          rotate_left 1
          · intro w hSw; (try dsimp only at hSw); go_simp; (try with_reducible rfl)
          simp only [Act.put, List.getElem_toArray, List.getElem_cons_zero, List.getElem_cons_succ, List.setIfInBounds_toArray, List.set_cons_zero, List.set_cons_succ]
          refine wpAnyH_take (i := 5) (v := ?_) rfl (by kernel_rfl) (by kernel_rfl) (by kernel_rfl) (fun _ _ _ h => h) (Or.inl ⟨by rfl, ?_⟩) (by assumption) ?_
          rotate_left 1
          · intro w hSw; (try dsimp only at hSw); go_simp; (try with_reducible rfl)
          simp only [Act.put, List.getElem_toArray, List.getElem_cons_zero, List.getElem_cons_succ, List.setIfInBounds_toArray, List.set_cons_zero, List.set_cons_succ]
          refine wpAnyH_take (i := 6) (v := ?_) rfl (by kernel_rfl) (by kernel_rfl) (by kernel_rfl) (fun _ _ _ h => h) (Or.inl ⟨by rfl, ?_⟩) (by assumption) ?_
          rotate_left 1
          · intro w hSw; (try dsimp only at hSw); go_simp; (try with_reducible rfl)
          simp only [Act.put, List.getElem_toArray, List.getElem_cons_zero, List.getElem_cons_succ, List.setIfInBounds_toArray, List.set_cons_zero, List.set_cons_succ]
          refine wpAnyH_take (i := 7) (v := ?_) rfl (by kernel_rfl) (by kernel_rfl) (by kernel_rfl) (fun _ _ _ h => h) (Or.inl ⟨by rfl, ?_⟩) (by assumption) ?_
          rotate_left 1
          · intro w hSw; (try dsimp only at hSw); go_simp; (try with_reducible rfl)
          simp only [Act.put, List.getElem_toArray, List.getElem_cons_zero, List.getElem_cons_succ, List.setIfInBounds_toArray, List.set_cons_zero, List.set_cons_succ]
          refine wpAnyH_take (i := 8) (v := ?_) rfl (by kernel_rfl) (by kernel_rfl) (by kernel_rfl) (fun _ _ _ h => h) (Or.inl ⟨by rfl, ?_⟩) (by assumption) ?_
          rotate_left 1
          · intro w hSw; (try dsimp only at hSw); (have x := hSw.1); clear hSw; go_simp; (try with_reducible rfl)
          simp only [Act.put, List.getElem_toArray, List.getElem_cons_zero, List.getElem_cons_succ, List.setIfInBounds_toArray, List.set_cons_zero, List.set_cons_succ]
          refine wpAnyH_take (i := 9) (v := ?_) rfl (by kernel_rfl) (by kernel_rfl) (by kernel_rfl) (fun _ _ _ h => h) (Or.inl ⟨by rfl, ?_⟩) (by assumption) ?_
          rotate_left 1
          · intro w hSw; (try dsimp only at hSw); go_simp; (try with_reducible rfl)
          simp only [Act.put, List.getElem_toArray, List.getElem_cons_zero, List.getElem_cons_succ, List.setIfInBounds_toArray, List.set_cons_zero, List.set_cons_succ]
          refine wpAnyH_take (i := 10) (v := ?_) rfl (by kernel_rfl) (by kernel_rfl) (by kernel_rfl) (fun _ _ _ h => h) (Or.inl ⟨by rfl, ?_⟩) (by assumption) ?_
          rotate_left 1
          · intro w hSw; (try dsimp only at hSw); go_simp; (try with_reducible rfl)
          simp only [Act.put, List.getElem_toArray, List.getElem_cons_zero, List.getElem_cons_succ, List.setIfInBounds_toArray, List.set_cons_zero, List.set_cons_succ]
          refine wpAnyH_take (i := 11) (v := ?_) rfl (by kernel_rfl) (by kernel_rfl) (by kernel_rfl) (fun _ _ _ h => h) (Or.inl ⟨by rfl, ?_⟩) (by assumption) ?_
          rotate_left 1
          · intro w hSw; (try dsimp only at hSw); go_simp; (try with_reducible rfl)
          simp only [Act.put, List.getElem_toArray, List.getElem_cons_zero, List.getElem_cons_succ, List.setIfInBounds_toArray, List.set_cons_zero, List.set_cons_succ]
          refine wpAnyH_take (i := 12) (v := ?_) rfl (by kernel_rfl) (by kernel_rfl) (by kernel_rfl) (fun _ _ _ h => h) (Or.inl ⟨by rfl, ?_⟩) (by assumption) ?_
          rotate_left 1
          · intro w hSw; (try dsimp only at hSw); (have x := hSw.2); clear hSw; go_simp; (try with_reducible rfl)
          simp only [Act.put, List.getElem_toArray, List.getElem_cons_zero, List.getElem_cons_succ, List.setIfInBounds_toArray, List.set_cons_zero, List.set_cons_succ]
          refine wpAnyH_take (i := 13) (v := ?_) rfl (by kernel_rfl) (by kernel_rfl) (by kernel_rfl) (fun _ _ _ h => h) (Or.inl ⟨by rfl, ?_⟩) (by assumption) ?_
          rotate_left 1
          · intro w hSw; (try dsimp only at hSw); go_simp; (try with_reducible rfl)
          simp only [Act.put, List.getElem_toArray, List.getElem_cons_zero, List.getElem_cons_succ, List.setIfInBounds_toArray, List.set_cons_zero, List.set_cons_succ]
          refine wpAnyH_take (i := 14) (v := ?_) rfl (by kernel_rfl) (by kernel_rfl) (by kernel_rfl) (fun _ _ _ h => h) (Or.inl ⟨by rfl, ?_⟩) (by assumption) ?_
          rotate_left 1
          · intro w hSw; (try dsimp only at hSw); go_simp; (try with_reducible rfl)
          simp only [Act.put, List.getElem_toArray, List.getElem_cons_zero, List.getElem_cons_succ, List.setIfInBounds_toArray, List.set_cons_zero, List.set_cons_succ]
          refine wpAnyH_ready (rs := [15]) (by kernel_rfl) (by simp) ?_
          refine AllReadyH.cons rfl (fun K hK => ?_) AllReadyH.nil
          go_simp
          refine hK.out _ _ (⟨(World.cell?_setCell_other _ _ _ _ (fun e => HRL.out (congrArg Addr.block e).symm)).trans C0.out, (World.cell?_setCell_other _ _ _ _ (fun e => by have h := congrArg Addr.off e; simp only at h; omega)).trans D1.out⟩) (fun hHeld => ?_)
          clear hK K
          refine wpAnyH_done (by kernel_rfl) ?_ _
          have P1 := Lib.hid (HP.out.setF (i := k) (by simp only [fallTo_length]; exact HLT.out) HSL0.out HCL.out)
          have K3 : Hid (Keep (· = lb) w1 (wd.setCell ⟨lb, k * 2, none⟩ (.slice (some ⟨b0, o0, none⟩) 64 cc))) := K2.out.setCell _ _ rfl
          clear hHeld c0 d0 d1 z0 z1 HP HSL0 C0 D1
          generalize wd.setCell ⟨lb, k * 2, none⟩ (.slice (some ⟨b0, o0, none⟩) 64 cc) = w5 at *
          have HLE : Hid (((fallTo (fun _ => true) s1.L k).set k (bs, (secAt (fallTo (fun _ => true) s1.L k) k).2)).length = s1.L.length) := by show _ = _; rw [List.length_set, fallTo_length]
          obtain ⟨c0, _, _, _, _, _, _, _⟩ := drCell P1.out.obj
          simp only [HLE.out] at c0
          obtain ⟨d0, d1, z0, z1⟩ := P1.out.cell (i := k) (by rw [HLE.out]; exact HLT.out)
          have P2 := Lib.hid (P1.out.setC (i := k) (by rw [HLE.out]; exact HLT.out) (v := .slice none 0 0) (x := none) ⟨fun _ => rfl, fun b hb => by cases hb⟩)
          have HEND : Hid (((fallTo (fun _ => true) s1.L k).set k (bs, (secAt (fallTo (fun _ => true) s1.L k) k).2)).set k ((secAt ((fallTo (fun _ => true) s1.L k).set k (bs, (secAt (fallTo (fun _ => true) s1.L k) k).2)) k).1, none) = fallTo (fun _ => true) s1.L (k + 1)) := by
            show _ = _
            rw [fallTo_succ _ HLT.out, List.set_set, secAt_set (by rw [fallTo_length]; exact HLT.out), if_pos rfl]
            have e : left1 (fun _ => true) (rank s1.L k) (secAt s1.L k) = bs := by unfold left1; rw [HC.out]; simp
            rw [e]
          go_wp2_with fail
          go_roundw
          case rel =>
            have P3 := P2.out
            rw [HEND.out] at P3
            exact ⟨k + 1, _, HLT.out, by go_num, P3, K3.out.setCell _ _ rfl⟩
          case measure => have := HLT.out; simp [intOf]; omega
      · obtain rfl : k = s1.L.length := by have := HK.out; omega
        rw [fallTo_all] at HP
        have hkI : (s1.L.length : Int) < 1025 := by have := HN.out; simp only [fallTo_length] at this; omega
        clear hp hkeep hk
        go_wp2_with fail
        go_ret
        rw [HFL.out]
        exact ⟨rfl, F, ⟨_, _, _, _, _, _, HP.out⟩, fun _ hk => .inl hk, K1.out.trans (K2.out.more (fun k h => by rw [h]; exact H1.out.fl))⟩
end Go.Proofs.Ytbkdgciaapkemaa
