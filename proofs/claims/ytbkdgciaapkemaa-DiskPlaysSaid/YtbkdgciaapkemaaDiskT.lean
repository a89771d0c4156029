/- The document's disk (citadelref06): what each act makes of it. -/
import Derived.Test.YtbkdgciaapkemaaDiskS
namespace Go.Proofs.Ytbkdgciaapkemaa
open Go.RowKit
set_option linter.unusedVariables false
set_option linter.unusedSimpArgs false

def DrTo (w : World) (r : Nat) (F : Nat → Prop) (x : Int × DS) (e : Ending) (w' : World) : Prop :=
  e = .returned (.int .i64 x.1) ∧ ∃ F', DrAt w' r F' x.2 ∧ (∀ k, F' k → F k ∨ w.heap.size ≤ k) ∧ Keep F w w'
theorem DrTo.same {w : World} {r : Nat} {F : Nat → Prop} {s : DS} {n : Int} (h : DrAt w r F s) : DrTo w r F (n, s) (.returned (.int .i64 n)) w := ⟨rfl, F, h, fun _ hk => .inl hk, Keep.refl _ _⟩
theorem DrTo.after {w0 w w' : World} {r : Nat} {F : Nat → Prop} {x : Int × DS} {e : Ending} (hb : Below w0.heap.size w0 w) (h : DrTo w r F x e w') : DrTo w0 r F x e w' := by
  obtain ⟨he, F', h1, h2, h3⟩ := h
  exact ⟨he, F', h1, fun k hf => (h2 k hf).imp id (Nat.le_trans hb.size), (Keep.of_below hb).trans h3⟩

/-- An operation counted. -/
def DS.fell (s : DS) : DS := if s.left = 1 then s.fall (selB s.stay) else ⟨s.L, s.up, s.left - 1, s.stay⟩
set_option maxRecDepth 1000000 in
set_option maxHeartbeats 1000000 in
theorem qFalls (r : Nat) (F : Nat → Prop) (s : DS) (w : World) (h : DrAt w r F s) :
    Calls Try.prog 54 #[.pointer (some ⟨r, 0, none⟩)] w fun e w' => e = .returned (.bool (decide (s.left = 1))) ∧ DrAt w' r F s.fell ∧ Keep F w w' := by
  obtain ⟨lb, cap, vs, A, m, c, hP⟩ := h
  have H := Lib.hid hP
  obtain ⟨c0, c1, c2, c3, z0, z1, z2, z3⟩ := drCell hP.obj
  clear hP c0 c1 z0 z1
  go_enter Try.func54, Try.ntmps54
  by_cases h0 : s.left = 0
  · have H0 := Lib.hid h0
    rw [h0] at c2
    clear h0
    go_wp2_with fail
    go_ret
    refine ⟨by rw [H0.out]; rfl, ⟨lb, cap, vs, A, m, c, ?_⟩, Keep.refl _ _⟩
    have e : s.fell = s := by
      unfold DS.fell
      rw [if_neg (by rw [H0.out]; decide)]
      show DS.mk s.L s.up (s.left - 1) s.stay = DS.mk s.L s.up s.left s.stay
      rw [H0.out]
    rw [e]
    exact H.out
  · obtain ⟨l, hl⟩ : ∃ l, s.left = l + 1 := ⟨s.left - 1, by omega⟩
    have HL := Lib.hid hl
    have hlt := H.out.ok.lt
    rw [hl] at c2 hlt
    have hne : ¬ ((l + 1 : Nat) : Int) = 0 := by omega
    have e1 : ((l + 1 : Nat) : Int) - 1 = (l : Int) := by omega
    have hk : Keep (· = r) w (w.setCell ⟨r, 2, none⟩ (.int .i64 (l : Int))) := (Keep.refl (· = r) w).setCell ⟨r, 2, none⟩ _ rfl
    have HP := Lib.hid (H.out.own (up := s.up) (left := l) (stay := s.stay) hk (drSet2 H.out.obj _) H.out.stay H.out.soff (by omega))
    have K1 := Lib.hid (hk.more (R' := F) (fun k h => by rw [h]; exact H.out.fr))
    clear h0 hl hk
    by_cases hl0 : l = 0
    · subst hl0
      have HF := Lib.hid (qFall r lb cap vs A m c F _ _ HP.out A m c s.stay HP.out.stay.1 (fun b o hm e => (HP.out.soff b o hm e).2.2))
      go_wp2_with fail
      refine (HF.out).mono ?_
      rintro e w2 ⟨rfl, hd, hk⟩
      have D2 := Lib.hid hd
      have K2 := Lib.hid hk
      clear hd hk
      go_wp2_with fail
      go_ret
      refine ⟨by rw [HL.out]; rfl, ?_, K1.out.trans (K2.out.more (fun k h => by rcases h with rfl | rfl; exact H.out.fr; exact H.out.fl))⟩
      have e : s.fell = s.fall (selB s.stay) := by unfold DS.fell; rw [if_pos HL.out]
      rw [e]
      exact D2.out
    · have hl1 : (l : Int) > 0 := by omega
      have HL0 : Hid (¬ l = 0) := hl0
      clear hl0
      go_wp2_with fail
      go_ret
      refine ⟨?_, ?_, K1.out⟩
      · have : ¬ s.left = 1 := by rw [HL.out]; have := HL0.out; omega
        rw [decide_eq_false this]; rfl
      · have e : s.fell = ⟨s.L, s.up, l, s.stay⟩ := by unfold DS.fell; rw [if_neg (by rw [HL.out]; have := HL0.out; omega), HL.out]; rfl
        rw [e]
        exact ⟨lb, cap, vs, A, m, c, HP.out⟩
set_option maxRecDepth 1000000 in
set_option maxHeartbeats 1000000 in
theorem qCrash (r : Nat) (F : Nat → Prop) (s : DS) (A : Option Addr) (n c : Nat) (st : List UInt8) (w : World) (h : DrAt w r F s) (hr : Rd w w.heap.size A n st) (ho : Off A n F) :
    Calls Try.prog 35 #[.pointer (some ⟨r, 0, none⟩), .slice A n c] w (DrTo w r F (s.crash st)) := by
  obtain ⟨lb, cap, vs, A0, m0, c00, hP⟩ := h
  have H := Lib.hid hP
  obtain ⟨c0, c1, c2, c3, z0, z1, z2, z3⟩ := drCell hP.obj
  have HF := Lib.hid (qFall r lb cap vs A0 m0 c00 F s w hP A n c st hr (fun b o hm e hb => ho hm b o e (by rw [hb]; exact hP.fl)))
  clear hP c0 c2 c3 z0 z1 z2 z3 hr ho
  go_enter Try.func35, Try.ntmps35
  cases hu : s.up
  · have HU := Lib.hid hu
    rw [hu] at c1
    clear hu
    go_wp2_with fail
    go_ret
    rw [DS.crash, HU.out, if_pos rfl]
    exact DrTo.same ⟨_, _, _, _, _, _, H.out⟩
  · have HU := Lib.hid hu
    rw [hu] at c1
    clear hu
    go_wp2_with fail
    refine (HF.out).mono ?_
    rintro e w2 ⟨rfl, hd, hk⟩
    have D2 := Lib.hid hd
    have K2 := Lib.hid hk
    clear hd hk
    go_wp2_with fail
    go_ret
    rw [DS.crash, HU.out, if_neg (by decide)]
    exact ⟨rfl, F, D2.out, fun _ hk => .inl hk, K2.out.more (fun k h => by rcases h with rfl | rfl; exact H.out.fr; exact H.out.fl)⟩
set_option maxRecDepth 1000000 in
set_option maxHeartbeats 1000000 in
theorem qStart (r : Nat) (F : Nat → Prop) (s : DS) (w : World) (h : DrAt w r F s) : Calls Try.prog 38 #[.pointer (some ⟨r, 0, none⟩)] w (DrTo w r F s.start) := by
  obtain ⟨lb, cap, vs, A, m, c, hP⟩ := h
  have H := Lib.hid hP
  obtain ⟨c0, c1, c2, c3, z0, z1, z2, z3⟩ := drCell hP.obj
  clear hP c0 c2 c3 z0 z2 z3
  go_enter Try.func38, Try.ntmps38
  cases hu : s.up
  · have HU := Lib.hid hu
    rw [hu] at c1
    clear hu
    go_wp2_with fail
    go_ret
    rw [DS.start, HU.out, if_neg (by decide)]
    have hk : Keep (· = r) w (w.setCell ⟨r, 1, none⟩ (.bool false)) := (Keep.refl (· = r) w).setCell ⟨r, 1, none⟩ _ rfl
    exact ⟨rfl, F, ⟨lb, cap, vs, A, m, c, H.out.own (up := true) (left := s.left) (stay := s.stay) hk (drSet1 H.out.obj _) H.out.stay H.out.soff H.out.ok.lt⟩, fun _ hk => .inl hk, (Keep.refl _ _).setCell _ _ H.out.fr⟩
  · have HU := Lib.hid hu
    rw [hu] at c1
    clear hu
    go_wp2_with fail
    go_ret
    rw [DS.start, HU.out, if_pos rfl]
    exact DrTo.same ⟨_, _, _, _, _, _, H.out⟩
theorem DrP.more {w : World} {r lb cap : Nat} {vs : List (Value × Value)} {A : Option Addr} {m c : Nat} {F G : Nat → Prop} {s : DS} (h : DrP w r lb cap vs A m c F s) (hg : ∀ k, F k → G k) (hl : ∀ k, G k → k < w.heap.size) : DrP w r lb cap vs A m c G s :=
  ⟨h.obj, h.len, h.row, fun i hi => (h.sec i hi).more hg, h.stay, fun b o hm e => ⟨hg _ (h.soff b o hm e).1, (h.soff b o hm e).2⟩, hg _ h.fr, hg _ h.fl, h.rl, hl, h.cap, h.ok⟩
set_option maxRecDepth 1000000 in
set_option maxHeartbeats 1000000 in
theorem qArm (r : Nat) (F : Nat → Prop) (s : DS) (i : Int) (A : Option Addr) (n c : Nat) (st : List UInt8) (w : World) (h : DrAt w r F s) (hi : i ≤ 9223372036854775807) (hr : Rd w w.heap.size A n st) (hn : n ≤ 140737488355328) (ho : Off A n F) :
    Calls Try.prog 37 #[.pointer (some ⟨r, 0, none⟩), .int .i64 i, .slice A n c] w (DrTo w r F (s.arm i st)) := by
  obtain ⟨lb, cap, vs, A0, m0, c00, hP⟩ := h
  have H := Lib.hid hP
  obtain ⟨c0, c1, c2, c3, z0, z1, z2, z3⟩ := drCell hP.obj
  have R := Lib.hid hr
  have HO := Lib.hid ho
  have HI := Lib.hid hi
  clear hP c0 z0 z1 hr ho hi
  go_enter Try.func37, Try.ntmps37
  cases hu : s.up
  · have HU := Lib.hid hu
    rw [hu] at c1
    clear hu
    go_wp2_with fail
    go_ret
    rw [DS.arm, HU.out, if_pos rfl]
    exact DrTo.same ⟨_, _, _, _, _, _, H.out⟩
  have HU := Lib.hid hu
  rw [hu] at c1
  clear hu
  by_cases hlt : i < 1
  · have HL : Hid (i < 1) := hlt
    go_wp2_with fail
    go_ret
    rw [DS.arm, HU.out, if_neg (by decide), if_pos HL.out]
    exact DrTo.same ⟨_, _, _, _, _, _, H.out⟩
  · obtain ⟨l, rfl⟩ : ∃ l : Nat, i = (l : Int) := ⟨i.toNat, by omega⟩
    have HL : Hid (1 ≤ l) := by show _ ≤ _; omega
    go_wp2_with fail
    have hk : Keep (· = r) w (w.setCell ⟨r, 2, none⟩ (.int .i64 (l : Int))) := (Keep.refl (· = r) w).setCell ⟨r, 2, none⟩ _ rfl
    have R1 := Lib.hid (R.out.kept hk (fun hn b o e hb => HO.out hn b o e (by rw [show b = r from hb]; exact H.out.fr)))
    have O1 := drSet2 (v := .int .i64 (l : Int)) H.out.obj
    have HO1 := Lib.hid O1
    have KF : Hid (Keep (· = r) w (w.setCell ⟨r, 2, none⟩ (.int .i64 (l : Int)))) := hk
    clear hk O1 z2 z3 c1 c2 c3
    generalize w.setCell ⟨r, 2, none⟩ (.int .i64 (l : Int)) = w1 at *
    refine (refCopy A n c st w1 R1.out hn).mono ?_
    rintro e w2 ⟨A2, n2, c2, rfl, hown, hb⟩
    have hcp := own_cap hown
    have RD := Lib.hid (Rd.of_own hown)
    have hn2 : n2 = n := by rw [← RD.out.1, R1.out.1]
    subst hn2
    have OW := Lib.hid (own_head hown)
    have HCP : Hid (n2 ≤ c2 ∧ c2 ≤ 9223372036854775807) := hcp
    have B2 := Lib.hid hb
    obtain ⟨_, _, _, c3, _, _, _, z3⟩ := drCell ((hb.block r (heap_at_lt HO1.out)).trans HO1.out)
    have HO2 := Lib.hid ((hb.block r (heap_at_lt HO1.out)).trans HO1.out)
    clear hown hb hcp
    go_wp2_with fail
    go_ret
    have P1 := H.out.own (up := s.up) (left := l) (stay := s.stay) KF.out HO1.out H.out.stay H.out.soff (by have := HI.out; omega)
    have P2 := (P1.to B2.out).more (G := fun k => F k ∨ (w.heap.size ≤ k ∧ k < w2.heap.size)) (fun k h => .inl h) (fun k h => by rcases h with h | h; exact Nat.lt_of_lt_of_le (P1.lt k h) B2.out.size; exact h.2)
    have hk3 : Keep (· = r) w2 (w2.setCell ⟨r, 3, none⟩ (.slice A2 n2 c2)) := (Keep.refl (· = r) w2).setCell ⟨r, 3, none⟩ _ rfl
    have ho : (w2.setCell ⟨r, 3, none⟩ (.slice A2 n2 c2)).heap[r]? = _ := drSet3 HO2.out _
    have hw1 := KF.out.size
    have P3 := P2.own (up := s.up) (left := l) (stay := st) hk3 ho ⟨RD.out, hn, HCP.out.1, HCP.out.2⟩ (fun b o hm e => by
      obtain ⟨g, hg, hgb⟩ := OW.out hm
      rw [e] at hg
      injection hg with hg; injection hg with hg _
      obtain ⟨b', o', e', hlt', _⟩ := RD.out.2 hm
      rw [e] at e'
      injection e' with e'; injection e' with e1 _
      have h1 := H.out.lt r H.out.fr
      have h2 := H.out.lt lb H.out.fl
      exact ⟨.inr ⟨by omega, by omega⟩, by omega, by omega⟩) (by have := HI.out; omega)
    rw [show s.arm (l : Int) st = (0, ⟨s.L, s.up, l, st⟩) from by unfold DS.arm; rw [if_neg (by rw [HU.out]; decide), if_neg (by have := HL.out; omega), Int.toNat_natCast]]
    exact ⟨rfl, _, ⟨lb, cap, vs, A2, n2, c2, P3⟩, fun k hk => hk.imp id (fun h => h.1), (((KF.out.trans (Keep.of_below B2.out)).trans hk3).more (fun k h => by rw [h]; exact H.out.fr))⟩
end Go.Proofs.Ytbkdgciaapkemaa
