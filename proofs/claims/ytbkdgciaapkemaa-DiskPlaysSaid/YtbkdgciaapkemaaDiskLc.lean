/- The chapter's examples, as the outright laws of layer 6 begin with them (citadellaw06.awake): it returns true. -/
import Derived.Test.YtbkdgciaapkemaaDiskLb
namespace Go.Proofs.Ytbkdgciaapkemaa
open Go.RowKit
set_option linter.unusedVariables false
set_option linter.unusedSimpArgs false

/-- The disk, in memory of the call's own. -/
structure Mine (w wr : World) (d : Nat) (F : Nat → Prop) (s : DS) : Prop where
  at_ : DkAt wr d F s
  lo : ∀ k, F k → w.heap.size ≤ k
  bel : Below w.heap.size w wr
theorem Mine.to {w wr w' : World} {d : Nat} {F : Nat → Prop} {s : DS} (h : Mine w wr d F s) (hb : Below wr.heap.size wr w') : Mine w w' d F s := ⟨h.at_.to hb, h.lo, h.bel.trans (hb.mono h.bel.size)⟩
/-- Behind an act. -/
structure Did (w wr w' : World) (d : Nat) (F F' : Nat → Prop) (s' : DS) : Prop where
  mine : Mine w w' d F' s'
  new : ∀ k, F' k → F k ∨ wr.heap.size ≤ k
  keep : Keep F wr w'
theorem DkTo.get {w wr w' : World} {d : Nat} {F : Nat → Prop} {s s' : DS} {r : Int × DS} {e : Ending} {n : Int} (h : DkTo wr d F r e w') (hm : Mine w wr d F s) (hr : r = (n, s')) : e = .returned (.int .i64 n) ∧ ∃ F', Did w wr w' d F F' s' := by
  subst hr
  obtain ⟨he, F', h1, h2, h3⟩ := h
  exact ⟨he, F', ⟨⟨h1, fun k hk => (h2 k hk).elim (hm.lo k) (Nat.le_trans hm.bel.size), h3.below hm.bel hm.bel.size hm.lo⟩, h2, h3⟩⟩
theorem RdK.kept {R : Nat → Prop} {k : IntKind} {w w' : World} {n : Nat} {A : Option Addr} {xs : List Nat} (h : RdK k w w.heap.size A n xs) (hk : Keep R w w') (ho : Off A n R) : RdK k w' w'.heap.size A n xs :=
  ⟨h.1, fun hn => by
    obtain ⟨b, o, e, hb, hc⟩ := h.2 hn
    exact ⟨b, o, e, Nat.lt_of_lt_of_le hb hk.size, fun j hj => by rw [← hc j hj]; exact hk.cell hb (ho hn b o e)⟩⟩
theorem Off.step {w : World} {A : Option Addr} {n : Nat} {F F' : Nat → Prop} (h : Off A n F) (hl : 0 < n → ∀ b o, A = some ⟨b, o, none⟩ → b < w.heap.size) (hn : ∀ k, F' k → F k ∨ w.heap.size ≤ k) : Off A n F' := fun h0 b o e hb => by
  rcases hn b hb with hb | hb
  · exact h h0 b o e hb
  · have := hl h0 b o e; omega
theorem Rd.lts {w : World} {A : Option Addr} {n : Nat} {bs : List UInt8} (h : Rd w w.heap.size A n bs) : 0 < n → ∀ b o, A = some ⟨b, o, none⟩ → b < w.heap.size := fun hn b o e => by
  obtain ⟨b', o', e', hlt, _⟩ := h.2 hn
  rw [e] at e'
  injection e' with e'; injection e' with e1 _
  omega
theorem RdK.lts {k : IntKind} {w : World} {A : Option Addr} {n : Nat} {xs : List Nat} (h : RdK k w w.heap.size A n xs) : 0 < n → ∀ b o, A = some ⟨b, o, none⟩ → b < w.heap.size := fun hn b o e => by
  obtain ⟨b', o', e', hlt, _⟩ := h.2 hn
  rw [e] at e'
  injection e' with e'; injection e' with e1 _
  omega
/-- What was read of a disk is apart from it. -/
theorem Mine.off {w wr w' : World} {d : Nat} {F : Nat → Prop} {s : DS} {T : TypeId} {A : Option Addr} {n c : Nat} {xs : List Value} (h : Mine w wr d F s) (ho : w'.ownsRow wr.heap.size T 1 (.slice A n c) n xs) : Off A n F := own_off ho h.at_.lt

abbrev f1 : List UInt8 := List.replicate 64 1
abbrev f2 : List UInt8 := List.replicate 64 2
def aS1 : DS := ((DS.new 3).write 2 f1).2
def aS2 : DS := (aS1.write 0 f2).2
def aS3 : DS := (aS2.crash [2]).2
def aS4 : DS := aS3.start.2
def aS5 : DS := (aS4.arm 2 []).2
def aS6 : DS := (aS5.write 1 f1).2
def aS7 : DS := aS6.flush.2
set_option maxRecDepth 1000000 in
theorem aw1 : (DS.new 3).write 2 f1 = (0, aS1) := by rfl
set_option maxRecDepth 1000000 in
theorem aw2 : aS1.write 0 f2 = (0, aS2) := by rfl
set_option maxRecDepth 1000000 in
theorem aw3 : dirtyL aS2.L = [0, 2] := by rfl
set_option maxRecDepth 1000000 in
theorem aw4 : aS2.crash [2] = (0, aS3) := by rfl
set_option maxRecDepth 1000000 in
theorem aw5 : aS3.flushed 2 = f1 ∧ aS3.flushed 0 = sec0 := by constructor <;> rfl
set_option maxRecDepth 1000000 in
theorem aw6 : aS3.read 0 = ([], 60) := by rfl
set_option maxRecDepth 1000000 in
theorem aw7 : aS3.start = (0, aS4) := by rfl
set_option maxRecDepth 1000000 in
theorem aw8 : aS4.read 2 = (f1, 0) := by rfl
set_option maxRecDepth 1000000 in
theorem aw9 : aS4.arm 2 [] = (0, aS5) := by rfl
set_option maxRecDepth 1000000 in
theorem aw10 : aS5.write 1 f1 = (0, aS6) := by rfl
set_option maxRecDepth 1000000 in
theorem aw11 : aS6.flush = (60, aS7) := by rfl
set_option maxRecDepth 1000000 in
theorem aw12 : aS7.up = false := by rfl
theorem lFill1 (w : World) : Calls Try.prog 29 #[.int .u8 1] w fun e w' => RetB 5 w f1 e w' := lFill 1 w
theorem lFill2 (w : World) : Calls Try.prog 29 #[.int .u8 2] w fun e w' => RetB 5 w f2 e w' := lFill 2 w
set_option maxRecDepth 1000000 in
set_option maxHeartbeats 1000000 in
theorem lAwake (w : World) : Calls Try.prog 24 #[] w fun e w' => e = .returned (.bool true) ∧ Below w.heap.size w w' := by
  go_enter Try.func24, Try.ntmps24
  go_wp2_with fail
  refine (dNew 3 w (by decide) (by decide)).mono ?_
  rintro e w1 ⟨d, rfl, F, hd, hf, hb⟩
  have M : Hid (Mine w w1 d F (DS.new 3)) := ⟨hd, hf, hb⟩
  clear hd hf hb
  go_wp2_with fail
  refine (lFill1 w1).mono ?_
  rintro e w2 ⟨A1, n1, c1, rfl, hown, hb⟩
  have OF1 := Lib.hid (M.out.off hown)
  have RD1 := Lib.hid (Rd.of_own hown)
  have CP1 := Lib.hid (own_cap hown)
  replace M := Lib.hid (M.out.to hb)
  clear hown hb
  go_wp2_with fail
  refine (dWrite d F _ 2 A1 n1 c1 f1 w2 M.out.at_ RD1.out OF1.out).mono ?_
  rintro e w3 h6
  obtain ⟨rfl, F3, hd⟩ := h6.get M.out aw1
  have h7 := RD1.out.kept hd.keep OF1.out
  replace OF1 := Lib.hid (OF1.out.step RD1.out.lts hd.new)
  replace RD1 := Lib.hid h7
  clear h7
  replace M := Lib.hid hd.mine
  clear hd h6
  go_wp2_with fail
  clear RD1 OF1 CP1
  refine (lFill2 w3).mono ?_
  rintro e w4 ⟨A2, n2, c2, rfl, hown, hb⟩
  have OF2 := Lib.hid (M.out.off hown)
  have RD2 := Lib.hid (Rd.of_own hown)
  have CP2 := Lib.hid (own_cap hown)
  replace M := Lib.hid (M.out.to hb)
  clear hown hb
  go_wp2_with fail
  refine (dWrite d F3 _ 0 A2 n2 c2 f2 w4 M.out.at_ RD2.out OF2.out).mono ?_
  rintro e w5 h6
  obtain ⟨rfl, F5, hd⟩ := h6.get M.out aw2
  have h7 := RD2.out.kept hd.keep OF2.out
  replace OF2 := Lib.hid (OF2.out.step RD2.out.lts hd.new)
  replace RD2 := Lib.hid h7
  clear h7
  replace M := Lib.hid hd.mine
  clear hd h6
  go_wp2_with fail
  clear RD2 OF2 CP2
  refine (dDirty d F5 _ w5 M.out.at_).mono ?_
  rintro e w6 ⟨A3, c3, rfl, hown, hb⟩
  rw [aw3] at hown ⊢
  have OF3 := Lib.hid (M.out.off hown)
  have RD3 := Lib.hid (RdK.of_own hown)
  have CP3 := Lib.hid (own_cap hown)
  replace M := Lib.hid (M.out.to hb)
  clear hown hb
  simp only [List.length_cons, List.length_nil, Nat.zero_add, Nat.reduceAdd] at RD3 OF3 CP3 ⊢
  go_wp2_with fail
  have HB2 : Hid (Below w6.heap.size w6 (w6.alloc (.cells #[.int .u8 2] 5))) := (Below.refl _ _).alloc (Nat.le_refl _) _
  have RL : Hid (Rd (w6.alloc (.cells #[.int .u8 2] 5)) (w6.alloc (.cells #[.int .u8 2] 5)).heap.size (some ⟨w6.heap.size, 0, none⟩) 1 [2]) := (Rd.lit [2] [.int .u8 2] 5 rfl).more (by simp)
  generalize w6.alloc (.cells #[.int .u8 2] 5) = w7 at *
  have hb := HB2.out
  replace RD3 := Lib.hid (RD3.out.to hb)
  replace M := Lib.hid (M.out.to hb)
  clear hb
  refine (dCrash d F5 _ (some ⟨w6.heap.size, 0, none⟩) 1 1 [2] w7 M.out.at_ RL.out (by decide) (by decide)).mono ?_
  rintro e w8 h6
  obtain ⟨rfl, F8, hd⟩ := h6.get M.out aw4
  have h7 := RD3.out.kept hd.keep OF3.out
  replace OF3 := Lib.hid (OF3.out.step RD3.out.lts hd.new)
  replace RD3 := Lib.hid h7
  clear h7
  replace M := Lib.hid hd.mine
  clear hd h6
  go_wp2_with fail
  clear RL HB2
  refine (dFlushed d F8 _ 2 w8 M.out.at_).mono ?_
  rintro e w9 ⟨A4, n4, c4, rfl, hown, hb⟩
  rw [aw5.1] at hown
  have OF4 := Lib.hid (M.out.off hown)
  have RD4 := Lib.hid (Rd.of_own hown)
  have CP4 := Lib.hid (own_cap hown)
  replace RD3 := Lib.hid (RD3.out.to hb)
  replace M := Lib.hid (M.out.to hb)
  clear hown hb
  go_wp2_with fail
  refine (dFlushed d F8 _ 0 w9 M.out.at_).mono ?_
  rintro e w10 ⟨A5, n5, c5, rfl, hown, hb⟩
  rw [aw5.2] at hown
  have OF5 := Lib.hid (M.out.off hown)
  have RD5 := Lib.hid (Rd.of_own hown)
  have CP5 := Lib.hid (own_cap hown)
  replace RD3 := Lib.hid (RD3.out.to hb)
  replace RD4 := Lib.hid (RD4.out.to hb)
  replace M := Lib.hid (M.out.to hb)
  clear hown hb
  obtain rfl : n4 = 64 := RD4.out.1.symm
  obtain ⟨b4, o4, rfl, _, hc4⟩ := RD4.out.2 (by decide)
  have x4 : w10.cell? ⟨b4, o4, none⟩ = some (.int .u8 1) := hc4 0 (by decide)
  clear hc4
  obtain rfl : n5 = 64 := RD5.out.1.symm
  obtain ⟨b5, o5, rfl, _, hc5⟩ := RD5.out.2 (by decide)
  have x5 : w10.cell? ⟨b5, o5, none⟩ = some (.int .u8 0) := hc5 0 (by decide)
  clear hc5
  obtain ⟨b3, o3, rfl, _, hc3⟩ := RD3.out.2 (by decide)
  have y0 : w10.cell? ⟨b3, o3, none⟩ = some (.int .i64 0) := hc3 0 (by decide)
  have y1 : w10.cell? ⟨b3, o3 + 1, none⟩ = some (.int .i64 2) := hc3 1 (by decide)
  clear hc3
  go_wp2_with fail
  clear x4 x5 y0 y1
  clear RD4 OF4 CP4
  clear RD5 OF5 CP5
  clear RD3 OF3 CP3
  refine (dRead d F8 _ 0 w10 M.out.at_).mono ?_
  rintro e w11 ⟨A6, n6, c6, rfl, hown, hb⟩
  rw [aw6] at hown
  rw [aw6]
  have OF6 := Lib.hid (M.out.off hown)
  have RD6 := Lib.hid (Rd.of_own hown)
  have CP6 := Lib.hid (own_cap hown)
  replace M := Lib.hid (M.out.to hb)
  clear hown hb
  go_wp2_with fail
  clear RD6 OF6 CP6
  refine (dStart d F8 _ w11 M.out.at_).mono ?_
  rintro e w12 h6
  obtain ⟨rfl, F12, hd⟩ := h6.get M.out aw7
  replace M := Lib.hid hd.mine
  clear hd h6
  go_wp2_with fail
  refine (dRead d F12 _ 2 w12 M.out.at_).mono ?_
  rintro e w13 ⟨A7, n7, c7, rfl, hown, hb⟩
  rw [aw8] at hown
  rw [aw8]
  have OF7 := Lib.hid (M.out.off hown)
  have RD7 := Lib.hid (Rd.of_own hown)
  have CP7 := Lib.hid (own_cap hown)
  replace M := Lib.hid (M.out.to hb)
  clear hown hb
  go_wp2_with fail
  refine (dArm d F12 _ 2 none 0 0 [] w13 M.out.at_ (by decide) (Rd.nil _ _ _) (by decide) (by decide)).mono ?_
  rintro e w14 h6
  obtain ⟨rfl, F14, hd⟩ := h6.get M.out aw9
  have h7 := RD7.out.kept hd.keep OF7.out
  replace OF7 := Lib.hid (OF7.out.step RD7.out.lts hd.new)
  replace RD7 := Lib.hid h7
  clear h7
  replace M := Lib.hid hd.mine
  clear hd h6
  go_wp2_with fail
  refine (lFill1 w14).mono ?_
  rintro e w15 ⟨A8, n8, c8, rfl, hown, hb⟩
  have OF8 := Lib.hid (M.out.off hown)
  have RD8 := Lib.hid (Rd.of_own hown)
  have CP8 := Lib.hid (own_cap hown)
  replace RD7 := Lib.hid (RD7.out.to hb)
  replace M := Lib.hid (M.out.to hb)
  clear hown hb
  go_wp2_with fail
  refine (dWrite d F14 _ 1 A8 n8 c8 f1 w15 M.out.at_ RD8.out OF8.out).mono ?_
  rintro e w16 h6
  obtain ⟨rfl, F16, hd⟩ := h6.get M.out aw10
  have h7 := RD7.out.kept hd.keep OF7.out
  replace OF7 := Lib.hid (OF7.out.step RD7.out.lts hd.new)
  replace RD7 := Lib.hid h7
  clear h7
  have h7 := RD8.out.kept hd.keep OF8.out
  replace OF8 := Lib.hid (OF8.out.step RD8.out.lts hd.new)
  replace RD8 := Lib.hid h7
  clear h7
  replace M := Lib.hid hd.mine
  clear hd h6
  go_wp2_with fail
  clear RD8 OF8 CP8
  refine (dFlush d F16 _ w16 M.out.at_).mono ?_
  rintro e w17 h6
  obtain ⟨rfl, F17, hd⟩ := h6.get M.out aw11
  have h7 := RD7.out.kept hd.keep OF7.out
  replace OF7 := Lib.hid (OF7.out.step RD7.out.lts hd.new)
  replace RD7 := Lib.hid h7
  clear h7
  replace M := Lib.hid hd.mine
  clear hd h6
  go_wp2_with fail
  refine (lFill1 w17).mono ?_
  rintro e w18 ⟨A9, n9, c9, rfl, hown, hb⟩
  have OF9 := Lib.hid (M.out.off hown)
  have RD9 := Lib.hid (Rd.of_own hown)
  have CP9 := Lib.hid (own_cap hown)
  replace RD7 := Lib.hid (RD7.out.to hb)
  replace M := Lib.hid (M.out.to hb)
  clear hown hb
  go_wp2_with fail
  refine (wSame A7 A9 n7 n9 c7 c9 _ f1 f1 w18 RD7.out RD9.out).mono ?_
  rintro e w0 ⟨rfl, rfl⟩
  rw [decide_eq_true rfl]
  go_wp2_with fail
  refine (dUp d F17 _ w18 M.out.at_).mono ?_
  rintro e w0 ⟨rfl, rfl⟩
  rw [aw12]
  go_wp2_with fail
  go_ret
  exact ⟨rfl, M.out.bel⟩
end Go.Proofs.Ytbkdgciaapkemaa
