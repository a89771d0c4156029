/- The program's disk (disk): what each act makes of it: a crash, the disk armed, started; a write, a flush. -/
import Derived.Test.YtopilgedcnbdaaaGreatDoorTz
import Derived.Test.YtopilgedcnbdaaaGreatDoorDiskD
namespace Go.Proofs.YtopilgedcnbdaaaGreatDoor
set_option maxRecDepth 1000000
set_option maxHeartbeats 8000000
open Go.RowKit
set_option linter.unusedVariables false
set_option linter.unusedSimpArgs false
def DkTo (w : World) (d : Nat) (F : Nat → Prop) (r : Int × DS) (e : Ending) (w' : World) : Prop :=
 e = .returned (.int .i64 r.1) ∧ ∃ F', DkAt w' d F' r.2 ∧ (∀ k, F' k → F k ∨ w.heap.size ≤ k) ∧ Keep F w w'
def DkSt (w : World) (d : Nat) (F : Nat → Prop) (r : Int × DS) (e : Ending) (w' : World) : Prop := e = .returned (.int .i64 r.1) ∧ DkAt w' d F r.2 ∧ Keep F w w'
theorem DkSt.to {w w' : World} {d : Nat} {F : Nat → Prop} {r : Int × DS} {e : Ending} (h : DkSt w d F r e w') : DkTo w d F r e w' := ⟨h.1, F, h.2.1, fun _ hk => .inl hk, h.2.2⟩
theorem DkSt.same {w : World} {d : Nat} {F : Nat → Prop} {s : DS} {n : Int} (h : DkAt w d F s) : DkSt w d F (n, s) (.returned (.int .i64 n)) w := ⟨rfl, h, Keep.refl _ _⟩
theorem DkSt.after {w0 w w' : World} {d : Nat} {F : Nat → Prop} {r : Int × DS} {e : Ending} (hb : Below w0.heap.size w0 w) (h : DkSt w d F r e w') : DkSt w0 d F r e w' := ⟨h.1, h.2.1, (Keep.of_below hb).trans h.2.2⟩
theorem DkSt.is {w w' : World} {d : Nat} {F : Nat → Prop} {r r' : Int × DS} {e : Ending} (h : DkSt w d F r e w') (hr : r = r') : DkSt w d F r' e w' := hr ▸ h
theorem DkTo.same {w : World} {d : Nat} {F : Nat → Prop} {s : DS} {n : Int} (h : DkAt w d F s) : DkTo w d F (n, s) (.returned (.int .i64 n)) w := ⟨rfl, F, h, fun _ hk => .inl hk, Keep.refl _ _⟩
theorem store4 {w : World} {d fb mb n left : Nat} {up : Bool} {stv v : Value} {T : TypeId} (h : w.heap[d]? = some (.cells (dkCells fb mb n up left stv) T (0, 0))) (hv : v.oneCell' = true) :
  (store ⟨d, 4, none⟩ v).run Tryz.prog w = .ok () (w.setCell ⟨d, 4, none⟩ v) := by
 obtain ⟨_, _, _, _, c4, _, _, z4⟩ := dkCell h
 rw [run_store Tryz.prog _ _ _ _ hv, c4]
 simp [z4]
theorem dFall (d fb mb : Nat) (stv : Value) (F : Nat → Prop) (s : DS) (w : World) (h : DkP w d fb mb stv F s) (i : FuncId) (cap : Array Value) (C : Nat → Prop) (sel : Nat → Bool) (hs : StaysOf w i cap C sel)
  (hC : ∀ k, C k → k < w.heap.size ∧ k ≠ fb) :
  Calls Tryz.prog 51 #[.pointer (some ⟨d, 0, none⟩), .func (.func i) #[] cap] w fun e w' => e = .returned (.tuple #[]) ∧ DkP w' d fb mb Value.nilFunc F (s.fall sel) ∧ Keep F w w' := by
 have H := qH h
 have HS := qH (dSettle d fb mb stv F s w h i cap C sel hs hC)
 clear h hs hC
 go_enter Tryz.func51, Tryz.ntmps51
 go_wp2_with fail
 refine (HS.out).mono ?_
 rintro e w1 ⟨rfl, hp, hk⟩
 obtain ⟨c0, c1, c2, c3, c4, z2, z3, z4⟩ := dkCell hp.obj
 have H1 := qH hp
 have K1 : Hid (Keep F w w1) := hk.more (fun k h => by rcases h with rfl | rfl; exact H.out.ff; exact H.out.fm)
 have hst : (store ⟨d, 4, none⟩ Value.nilFunc).run Tryz.prog ((w1.setCell ⟨d, 2, none⟩ (.bool false)).setCell ⟨d, 3, none⟩ (.int .i64 0)) = .ok () (((w1.setCell ⟨d, 2, none⟩ (.bool false)).setCell ⟨d, 3, none⟩ (.int .i64 0)).setCell ⟨d, 4, none⟩ Value.nilFunc) := by
  have o3 : ((w1.setCell ⟨d, 2, none⟩ (.bool false)).setCell ⟨d, 3, none⟩ (.int .i64 0)).heap[d]? = _ := dkSet3 (dkSet2 hp.obj false) 0
  exact store4 o3 rfl
 clear hp hk c0 c1
 go_wp2_with fail
 refine bodyPost_end (results_none rfl _ _ _) rfl ⟨rfl, ?_, ?_⟩
 ·have o4 : (((w1.setCell ⟨d, 2, none⟩ (.bool false)).setCell ⟨d, 3, none⟩ (.int .i64 0)).setCell ⟨d, 4, none⟩ Value.nilFunc).heap[d]? = _ := dkSet4 (dkSet3 (dkSet2 H1.out.obj false) 0) Value.nilFunc
  have hk : Keep (· = d) w1 (((w1.setCell ⟨d, 2, none⟩ (.bool false)).setCell ⟨d, 3, none⟩ (.int .i64 0)).setCell ⟨d, 4, none⟩ Value.nilFunc) := (((Keep.refl (· = d) w1).setCell ⟨d, 2, none⟩ _ rfl).setCell ⟨d, 3, none⟩ _ rfl).setCell ⟨d, 4, none⟩ _ rfl
  exact H1.out.own hk o4 (fun h => absurd rfl h) rfl (Nat.zero_le _)
 ·exact ((K1.out.setCell _ _ H.out.fd).setCell _ _ H.out.fd).setCell _ _ H.out.fd
theorem dCrash (d : Nat) (F : Nat → Prop) (s : DS) (A : Option Addr) (n c : Nat) (stay : List UInt8) (w : World) (h : DkAt w d F s) (hr : Rd w w.heap.size A n stay) (hn : n ≤ c) (hc : c ≤ 9223372036854775807) :
  Calls Tryz.prog 20 #[.pointer (some ⟨d, 0, none⟩), .slice A n c] w (DkTo w d F (s.crash stay)) := by
 have HST := qH (dState d F s w h)
 have H := qH h
 have R := qH hr
 clear h hr
 go_enter Tryz.func20, Tryz.ntmps20
 go_wp2_with fail
 refine (HST.out).mono ?_
 rintro e w1 ⟨rfl, rfl⟩
 cases hu : s.up
 ·have HU := qH hu
  clear hu
  go_wp2_with fail
  go_ret
  rw [DS.crash, HU.out, if_pos rfl]
  exact DkTo.same H.out
 ·have HU := qH hu
  clear hu
  go_wp2_with fail
  refine (dSelection A n c stay w R.out hn hc).mono ?_
  rintro e w1 ⟨v, cb, rfl, hst, hcb, hcl, h1, hb⟩
  obtain ⟨fb, mb, stv, hP⟩ := H.out
  have H1 := qH (hP.to hb)
  have HC := qH (dFall d fb mb stv F s w1 H1.out _ _ _ _ (StaysOf.of hst) (fun k hk => by subst hk; exact ⟨hcl, fun e => by have := hP.lt _ hP.ff; omega⟩))
  obtain rfl := hst.1
  have HB := qH hb
  clear hb hst hP h1
  go_wp2_with fail
  refine (HC.out).mono ?_
  rintro e w2 ⟨rfl, hp, hk⟩
  have H2 := qH hp
  have K2 := qH hk
  clear hp hk
  go_wp2_with fail
  go_ret
  rw [DS.crash, HU.out, if_neg (by decide)]
  exact ⟨rfl, F, ⟨fb, mb, _, H2.out⟩, fun _ hk => .inl hk, (Keep.of_below HB.out).trans K2.out⟩
theorem dStart (d : Nat) (F : Nat → Prop) (s : DS) (w : World) (h : DkAt w d F s) : Calls Tryz.prog 22 #[.pointer (some ⟨d, 0, none⟩)] w (DkTo w d F s.start) := by
 have HST := qH (dState d F s w h)
 obtain ⟨fb, mb, stv, h⟩ := h
 obtain ⟨c0, c1, c2, c3, c4, z2, z3, z4⟩ := dkCell h.obj
 have H := qH h
 clear h c0 c1 c3 c4 z3 z4
 go_enter Tryz.func22, Tryz.ntmps22
 go_wp2_with fail
 refine (HST.out).mono ?_
 rintro e w1 ⟨rfl, rfl⟩
 cases hu : s.up
 ·have HU := qH hu
  clear hu
  go_wp2_with fail
  go_ret
  rw [DS.start, HU.out, if_neg (by decide)]
  have hk : Keep (· = d) w (w.setCell ⟨d, 2, none⟩ (.bool true)) := (Keep.refl _ _).setCell _ _ rfl
  exact ⟨rfl, F, ⟨fb, mb, stv, H.out.own hk (dkSet2 H.out.obj true) H.out.st H.out.one H.out.ok.lt⟩, fun _ hk => .inl hk, (Keep.refl _ _).setCell _ _ H.out.fd⟩
 ·have HU := qH hu
  clear hu
  go_wp2_with fail
  go_ret
  rw [DS.start, HU.out, if_pos rfl]
  exact DkTo.same ⟨fb, mb, stv, H.out⟩
theorem dArm (d : Nat) (F : Nat → Prop) (s : DS) (i : Int) (A : Option Addr) (n c : Nat) (stay : List UInt8) (w : World) (h : DkAt w d F s) (hi : i ≤ 9223372036854775807) (hr : Rd w w.heap.size A n stay) (hn : n ≤ c) (hc : c ≤ 9223372036854775807) :
  Calls Tryz.prog 24 #[.pointer (some ⟨d, 0, none⟩), .int .i64 i, .slice A n c] w (DkTo w d F (s.arm i stay)) := by
 have HST := qH (dState d F s w h)
 have H := qH h
 have R := qH hr
 have HI := qH hi
 clear h hr hi
 go_enter Tryz.func24, Tryz.ntmps24
 go_wp2_with fail
 refine (HST.out).mono ?_
 rintro e w1 ⟨rfl, rfl⟩
 cases hu : s.up
 ·have HU := qH hu
  clear hu
  go_wp2_with fail
  go_ret
  rw [DS.arm, HU.out, if_pos rfl]
  exact DkTo.same H.out
 have HU := qH hu
 clear hu
 by_cases hlt : i < 1
 ·have HL : Hid (i < 1) := hlt
  go_wp2_with fail
  go_ret
  rw [DS.arm, HU.out, if_neg (by decide), if_pos (by exact hlt)]
  exact DkTo.same H.out
 ·obtain ⟨l, rfl⟩ : ∃ l : Nat, i = (l : Int) := ⟨i.toNat, by omega⟩
  have HL : Hid (1 ≤ l) := by show _ ≤ _; omega
  go_wp2_with fail
  refine (dSelection A n c stay w R.out hn hc).mono ?_
  rintro e w1 ⟨v, cb, rfl, hst, hcb, hcl, h1, hb⟩
  obtain ⟨fb, mb, stv, hP⟩ := H.out
  have H1 := qH (hP.to hb)
  have HLT := qH hP.lt
  have HB := qH hb
  obtain rfl := hst.1
  have HST1 := qH hst
  have HCB : Hid (w.heap.size ≤ cb) := hcb
  have HCL : Hid (cb < w1.heap.size) := hcl
  obtain ⟨c0, c1, c2, c3, c4, z2, z3, z4⟩ := dkCell H1.out.obj
  have hs4 := store4 (v := .func (.func 67) #[] #[.pointer (some ⟨cb, 0, none⟩)]) (dkSet3 H1.out.obj l) rfl
  clear hb hst hP hcb hcl h1 c0 c1 c2 z2
  go_wp2_with fail
  go_ret
  have H2 := H1.out.more (G := fun k => F k ∨ k = cb) (fun k h => .inl h) (fun k h => by rcases h with h | rfl; exact Nat.lt_of_lt_of_le (HLT.out k h) HB.out.size; exact HCL.out)
  have hne : ∀ k, F k → cb ≠ k := fun k hk e => by have := HLT.out k hk; have := HCB.out; omega
  have hK : Keep (· = d) w1 ((w1.setCell ⟨d, 3, none⟩ (.int .i64 (l : Int))).setCell ⟨d, 4, none⟩ (.func (.func 67) #[] #[.pointer (some ⟨cb, 0, none⟩)])) := ((Keep.refl (· = d) w1).setCell ⟨d, 3, none⟩ _ rfl).setCell ⟨d, 4, none⟩ _ rfl
  rw [show s.arm (l : Int) stay = (0, ⟨s.L, s.up, l, stay⟩) from by unfold DS.arm; rw [if_neg (by rw [HU.out]; decide), if_neg (by have := HL.out; omega), Int.toNat_natCast]]
  refine ⟨rfl, fun k => F k ∨ k = cb, ⟨fb, mb, _, H2.own hK (dkSet4 (dkSet3 H1.out.obj l) _) (fun _ => ⟨cb, HST1.out, .inr rfl, hne d H1.out.fd, hne fb H1.out.ff, hne mb H1.out.fm⟩) rfl (by have := HI.out; omega)⟩, fun k h => by rcases h with h | rfl; exact .inl h; exact .inr HCB.out, ?_⟩
  exact ((Keep.of_below HB.out).setCell _ _ H1.out.fd).setCell _ _ H1.out.fd
def ActOf (w : World) (d : Nat) (F : Nat → Prop) (s2 : DS) (e : Ending) (w' : World) : Prop :=
 e = .returned (.tuple #[]) ∧ DkAt w' d F s2 ∧ Keep F w w'
theorem dOperate (d : Nat) (F : Nat → Prop) (s s2 : DS) (w : World) (h : DkAt w d F s) (g : FuncId) (cap : Array Value) (hci : ∀ (args : Array Value) (w : World), (callFunc g args).run Tryz.prog w = .ok (.enter g args) w)
  (hact : s.left ≠ 1 → ∀ w1, Keep (· = d) w w1 → DkAt w1 d F ⟨s.L, s.up, s.left - 1, s.stay⟩ → Calls Tryz.prog g cap w1 (ActOf w1 d F s2)) :
  Calls Tryz.prog 45 #[.pointer (some ⟨d, 0, none⟩), .func (.func 46) #[.pointer (some ⟨d, 3, none⟩)] #[], .func (.func g) #[] cap] w
   (DkSt w d F (if s.left = 1 then (60, s.fall (selB s.stay)) else (0, s2))) := by
 obtain ⟨fb, mb, stv, hP⟩ := h
 have HD := qH (dDue d fb mb stv F s w hP)
 have H := qH hP
 have HA := qH hact
 have hcd := enters_of Tryz.func46 (by kernel_rfl) rfl
 clear hP hact
 obtain ⟨r, hr⟩ : ∃ r, (if s.left = 1 then ((60 : Int), s.fall (selB s.stay)) else (0, s2)) = r := ⟨_, rfl⟩
 rw [hr]
 have HR := qH hr
 clear hr
 go_enter Tryz.func45, Tryz.ntmps45
 go_wp2_with fail
 refine (HD.out).mono ?_
 rintro e w1 ⟨rfl, hp, hk⟩
 have H1 := qH hp
 have K1 := qH hk
 by_cases h1 : s.left = 1
 ·have HL := qH h1
  obtain ⟨cb, hst, hF, n1, n2, n3⟩ := H.out.st (by rw [h1]; decide)
  have HST1 : StAt w1 stv cb s.stay := hst.block (hk.block cb (H.out.lt _ hF) n1)
  obtain rfl := hst.1
  obtain ⟨c0, c1, c2, c3, c4, z2, z3, z4⟩ := dkCell hp.obj
  have HC := qH (dFall d fb mb _ F _ w1 hp _ _ _ _ (StaysOf.of HST1) (fun k hk => by subst hk; exact ⟨hp.lt _ hF, n2⟩))
  have e1 : decide (s.left = 1) = true := by simp [h1]
  rw [e1]
  clear hp hk hst hF n1 n2 n3 HST1 h1 e1 c0 c1 c2 c3 z2 z3 z4
  go_wp2_with fail
  refine (HC.out).mono ?_
  rintro e w2 ⟨rfl, hp, hk⟩
  have H2 := qH hp
  have K2 := qH hk
  clear hp hk
  go_wp2_with fail
  go_ret
  rw [← HR.out, if_pos HL.out]
  exact ⟨rfl, ⟨fb, mb, _, H2.out⟩, (K1.out.more (fun k h => by rw [h]; exact H.out.fd)).trans K2.out⟩
 ·have HL : Hid (¬ s.left = 1) := h1
  have HC := qH (HA.out h1 w1 hk ⟨fb, mb, stv, hp⟩)
  have e1 : decide (s.left = 1) = false := by simp [h1]
  rw [e1]
  clear hp hk h1 e1
  go_wp2_with fail
  refine (HC.out).mono ?_
  rintro e w2 ⟨rfl, hd, hk⟩
  have H2 := qH hd
  have K2 := qH hk
  clear hd hk
  go_wp2_with fail
  go_ret
  rw [← HR.out, if_neg (by exact HL.out)]
  exact ⟨rfl, H2.out, (K1.out.more (fun k h => by rw [h]; exact H.out.fd)).trans K2.out⟩
end Go.Proofs.YtopilgedcnbdaaaGreatDoor