/- The program's disk (disk): what each act makes of it: a crash, the disk armed, started; a write, a flush. -/
import Derived.Test.YtopilgedcnbdaaaDoorTz
import Derived.Test.YtopilgedcnbdaaaDoorDiskD
namespace Go.Proofs.YtopilgedcnbdaaaDoor
set_option maxRecDepth 1000000
set_option maxHeartbeats 8000000
open Go.RowKit
set_option linter.unusedVariables false
set_option linter.unusedSimpArgs false
def DkTo (w : World) (d : Nat) (F : Nat → Prop) (r : Int × DS) (e : Ending) (w' : World) : Prop :=
 e = .returned (.int .i64 r.1) ∧ ∃ F', DkAt w' d F' r.2 ∧ (∀ k, F' k → F k ∨ w.heap.size ≤ k) ∧ Keep F w w'
def DkSt (w : World) (d : Nat) (F : Nat → Prop) (r : Int × DS) (e : Ending) (w' : World) : Prop := e = .returned (.int .i64 r.1) ∧ DkAt w' d F r.2 ∧ Keep F w w'
theorem DkSt.to {w w' : World} {d : Nat} {F : Nat → Prop} {r : Int × DS} {e : Ending} (h : DkSt w d F r e w') : DkTo w d F r e w' := ⟨h.1, F, h.2.1, fun _ hk => .inl hk, h.2.2⟩
theorem DkSt.same {w : World} {d : Nat} {F : Nat → Prop} {s : DS} {n : Int} (h : DkAt w d F s) : DkSt w d F (n, s) (.returned (.int .i64 n)) w := ⟨rfl, h, Keep.refl _ _⟩
theorem DkSt.after {w0 w w' : World} {d : Nat} {F : Nat → Prop} {r : Int × DS} {e : Ending} (hb : Below w0.heap.size w0 w) (h : DkSt w d F r e w') : DkSt w0 d F r e w' := ⟨h.1, h.2.1, (Keep.of_below hb).trans h.2.2⟩
theorem DkSt.is {w w' : World} {d : Nat} {F : Nat → Prop} {r r' : Int × DS} {e : Ending} (h : DkSt w d F r e w') (hr : r = r') : DkSt w d F r' e w' := hr ▸ h
theorem DkTo.same {w : World} {d : Nat} {F : Nat → Prop} {s : DS} {n : Int} (h : DkAt w d F s) : DkTo w d F (n, s) (.returned (.int .i64 n)) w := ⟨rfl, F, h, fun _ hk => .inl hk, Keep.refl _ _⟩
theorem store4 {w : World} {d fb mb n left : Nat} {up : Bool} {stv v : Value} {T : TypeId} (h : w.heap[d]? = some (.cells (dkCells fb mb n up left stv) T (0, 0))) (hv : v.oneCell' = true) :
  (store ⟨d, 4, none⟩ v).run Tryd.prog w = .ok () (w.setCell ⟨d, 4, none⟩ v) := by
 obtain ⟨_, _, _, _, c4, _, _, z4⟩ := dkCell h
 rw [run_store Tryd.prog _ _ _ _ hv, c4]
 simp [z4]
theorem dFall (d fb mb : Nat) (stv : Value) (F : Nat → Prop) (s : DS) (w : World) (h : DkP w d fb mb stv F s) (i : FuncId) (cap : Array Value) (C : Nat → Prop) (sel : Nat → Bool) (hs : StaysOf w i cap C sel)
  (hC : ∀ k, C k → k < w.heap.size ∧ k ≠ fb) :
  Calls Tryd.prog 53 #[.pointer (some ⟨d, 0, none⟩), .func (.func i) #[] cap] w fun e w' => e = .returned (.tuple #[]) ∧ DkP w' d fb mb Value.nilFunc F (s.fall sel) ∧ Keep F w w' := by
 have H := qH h
 have HS := qH (dSettle d fb mb stv F s w h i cap C sel hs hC)
 clear h hs hC
 go_enter Tryd.func53, Tryd.ntmps53
 go_wp2_with fail
 refine (HS.out).mono ?_
 rintro e w1 ⟨rfl, hp, hk⟩
 obtain ⟨c0, c1, c2, c3, c4, z2, z3, z4⟩ := dkCell hp.obj
 have H1 := qH hp
 have K1 : Hid (Keep F w w1) := hk.more (fun k h => by rcases h with rfl | rfl; exact H.out.ff; exact H.out.fm)
 have hst : (store ⟨d, 4, none⟩ Value.nilFunc).run Tryd.prog ((w1.setCell ⟨d, 2, none⟩ (.bool false)).setCell ⟨d, 3, none⟩ (.int .i64 0)) = .ok () (((w1.setCell ⟨d, 2, none⟩ (.bool false)).setCell ⟨d, 3, none⟩ (.int .i64 0)).setCell ⟨d, 4, none⟩ Value.nilFunc) := by
  have o3 : ((w1.setCell ⟨d, 2, none⟩ (.bool false)).setCell ⟨d, 3, none⟩ (.int .i64 0)).heap[d]? = _ := dkSet3 (dkSet2 hp.obj false) 0
  exact store4 o3 rfl
 clear hp hk c0 c1
 go_wp2_with fail
 refine bodyPost_end (results_none rfl _ _ _) rfl ⟨rfl, ?_, ?_⟩
 ·have o4 : (((w1.setCell ⟨d, 2, none⟩ (.bool false)).setCell ⟨d, 3, none⟩ (.int .i64 0)).setCell ⟨d, 4, none⟩ Value.nilFunc).heap[d]? = _ := dkSet4 (dkSet3 (dkSet2 H1.out.obj false) 0) Value.nilFunc
  have hk : Keep (· = d) w1 (((w1.setCell ⟨d, 2, none⟩ (.bool false)).setCell ⟨d, 3, none⟩ (.int .i64 0)).setCell ⟨d, 4, none⟩ Value.nilFunc) := (((Keep.refl (· = d) w1).setCell ⟨d, 2, none⟩ _ rfl).setCell ⟨d, 3, none⟩ _ rfl).setCell ⟨d, 4, none⟩ _ rfl
  exact H1.out.own hk o4 (fun h => absurd rfl h) rfl (Nat.zero_le _)
 ·exact ((K1.out.setCell _ _ H.out.fd).setCell _ _ H.out.fd).setCell _ _ H.out.fd
def ActOf (w : World) (d : Nat) (F : Nat → Prop) (s2 : DS) (e : Ending) (w' : World) : Prop :=
 e = .returned (.tuple #[]) ∧ DkAt w' d F s2 ∧ Keep F w w'
theorem dOperate (d : Nat) (F : Nat → Prop) (s s2 : DS) (w : World) (h : DkAt w d F s) (g : FuncId) (cap : Array Value) (hci : ∀ (args : Array Value) (w : World), (callFunc g args).run Tryd.prog w = .ok (.enter g args) w)
  (hact : s.left ≠ 1 → ∀ w1, Keep (· = d) w w1 → DkAt w1 d F ⟨s.L, s.up, s.left - 1, s.stay⟩ → Calls Tryd.prog g cap w1 (ActOf w1 d F s2)) :
  Calls Tryd.prog 41 #[.pointer (some ⟨d, 0, none⟩), .func (.func 42) #[.pointer (some ⟨d, 3, none⟩)] #[], .func (.func g) #[] cap] w
   (DkSt w d F (if s.left = 1 then (60, s.fall (selB s.stay)) else (0, s2))) := by
 obtain ⟨fb, mb, stv, hP⟩ := h
 have HD := qH (dDue d fb mb stv F s w hP)
 have H := qH hP
 have HA := qH hact
 have hcd := enters_of Tryd.func42 (by kernel_rfl) rfl
 clear hP hact
 obtain ⟨r, hr⟩ : ∃ r, (if s.left = 1 then ((60 : Int), s.fall (selB s.stay)) else (0, s2)) = r := ⟨_, rfl⟩
 rw [hr]
 have HR := qH hr
 clear hr
 go_enter Tryd.func41, Tryd.ntmps41
 go_wp2_with fail
 refine (HD.out).mono ?_
 rintro e w1 ⟨rfl, hp, hk⟩
 have H1 := qH hp
 have K1 := qH hk
 by_cases h1 : s.left = 1
 ·have HL := qH h1
  obtain ⟨cb, hst, hF, n1, n2, n3⟩ := H.out.st (by rw [h1]; decide)
  exact hst.elim
 ·have HL : Hid (¬ s.left = 1) := h1
  have HC := qH (HA.out h1 w1 hk ⟨fb, mb, stv, hp⟩)
  have e1 : decide (s.left = 1) = false := by simp [h1]
  rw [e1]
  clear hp hk h1 e1
  go_wp2_with fail
  refine (HC.out).mono ?_
  rintro e w2 ⟨rfl, hd, hk⟩
  have H2 := qH hd
  have K2 := qH hk
  clear hd hk
  go_wp2_with fail
  go_ret
  rw [← HR.out, if_neg (by exact HL.out)]
  exact ⟨rfl, H2.out, (K1.out.more (fun k h => by rw [h]; exact H.out.fd)).trans K2.out⟩
end Go.Proofs.YtopilgedcnbdaaaDoor