/- For any number and flag the law WireLong of citadellaw05 returns true: a form of just 65,536 bytes is told, and read; one byte more breaks writer and reader. Conditions: none beyond those that the statement itself prints. -/
import Derived.Test.YtmhknpkiddgcpaaRows
import Derived.Test.YtmhknpkiddgcpaaWireAddsK
import Derived.Test.YtmhknpkiddgcpaaFldW
import Derived.WalkKit
import Derived.ProofKit
import Derived.OpenShut
import Derived.ShutString
import Derived.ChangeOld
import Derived.Below
namespace Go.Proofs.Ytmhknpkiddgcpaa.wireLong
open Go.ChangeShapes Go.WideShapes Go.ChangeAt Go.RowKit
open Go.ChangeMaps (open_string shut_string)
set_option linter.unusedVariables false
set_option linter.unusedSimpArgs false

theorem own : ownKnob Try.prog.godebug = none := by kernel_rfl
theorem laidOut : laidOutB Try.prog = true := by kernel_rfl

theorem fld_bytes (l : List UInt8) (A : Option Addr) (m c : Nat) : (fldL ⟨3, 0, 0, false, l, zeros32⟩ A m c).toArray = #[.int .i64 3, .int .u8 0, .int .i64 0, .bool false, .slice A m c, .int .u8 0, .int .u8 0, .int .u8 0, .int .u8 0, .int .u8 0, .int .u8 0, .int .u8 0, .int .u8 0, .int .u8 0, .int .u8 0, .int .u8 0, .int .u8 0, .int .u8 0, .int .u8 0, .int .u8 0, .int .u8 0, .int .u8 0, .int .u8 0, .int .u8 0, .int .u8 0, .int .u8 0, .int .u8 0, .int .u8 0, .int .u8 0, .int .u8 0, .int .u8 0, .int .u8 0, .int .u8 0, .int .u8 0, .int .u8 0, .int .u8 0, .int .u8 0] := rfl
theorem fld_seven : (fldL ⟨0, 7, 0, false, [], zeros32⟩ none 0 0).toArray = #[.int .i64 0, .int .u8 7, .int .i64 0, .bool false, .slice none 0 0, .int .u8 0, .int .u8 0, .int .u8 0, .int .u8 0, .int .u8 0, .int .u8 0, .int .u8 0, .int .u8 0, .int .u8 0, .int .u8 0, .int .u8 0, .int .u8 0, .int .u8 0, .int .u8 0, .int .u8 0, .int .u8 0, .int .u8 0, .int .u8 0, .int .u8 0, .int .u8 0, .int .u8 0, .int .u8 0, .int .u8 0, .int .u8 0, .int .u8 0, .int .u8 0, .int .u8 0, .int .u8 0, .int .u8 0, .int .u8 0, .int .u8 0, .int .u8 0] := rfl
/-- What the writer holds behind the long field. -/
theorem long_form (k : Nat) : (wBad [] (putF ⟨3, 0, 0, false, List.replicate k 0, zeros32⟩) false = false ∧ (k : Int) ≤ 65532 ∧ (wForm [] (putF ⟨3, 0, 0, false, List.replicate k 0, zeros32⟩) false).length = k + 4) ∨ (wBad [] (putF ⟨3, 0, 0, false, List.replicate k 0, zeros32⟩) false = true ∧ 65532 < (k : Int) ∧ (wForm [] (putF ⟨3, 0, 0, false, List.replicate k 0, zeros32⟩) false).length = 0) := by
  have hp : (putF ⟨3, 0, 0, false, List.replicate k 0, zeros32⟩).length = k + 4 := by
    show (enc (List.replicate k (0 : UInt8)).length 4 ++ List.replicate k 0).length = k + 4
    rw [List.length_append, enc_len, List.length_replicate]; omega
  generalize putF ⟨3, 0, 0, false, List.replicate k 0, zeros32⟩ = b at *
  unfold wBad wForm
  by_cases h : k + 4 ≤ 65536
  · left
    rw [if_pos (by simp; omega), if_pos ⟨rfl, by simp; omega⟩]
    exact ⟨rfl, by omega, by simp; omega⟩
  · right
    rw [if_neg (by simp; omega), if_neg (by simp; omega)]
    exact ⟨rfl, by omega, rfl⟩
/-- A byte behind it. -/
theorem long_more (form : List UInt8) (bad : Bool) : (wBad form [7] bad = false ∧ bad = false ∧ form.length + 1 ≤ 65536 ∧ (wForm form [7] bad).length = form.length + 1) ∨ (wBad form [7] bad = true ∧ (bad = true ∨ 65536 < form.length + 1)) := by
  unfold wBad wForm
  by_cases h : form.length + 1 ≤ 65536
  · cases bad
    · left
      rw [if_pos (by simpa using h), if_pos ⟨rfl, by simpa using h⟩]
      exact ⟨rfl, rfl, h, by simp⟩
    · right
      rw [if_pos (by simpa using h)]
      exact ⟨rfl, .inl rfl⟩
  · right
    rw [if_neg (by simpa using h)]
    exact ⟨rfl, .inr (by omega)⟩
theorem long_read (k : Nat) : (65532 < (k : Int) ∧ newRS (List.replicate (k + 4) 0) = ⟨[], 3⟩) ∨ ((k : Int) ≤ 65532 ∧ newRS (List.replicate (k + 4) 0) = ⟨List.replicate (k + 4) 0, 0⟩) := by
  unfold newRS
  by_cases h : 65536 < (List.replicate (k + 4) (0 : UInt8)).length
  · rw [if_pos h]; rw [List.length_replicate] at h; exact .inl ⟨by omega, rfl⟩
  · rw [if_neg h]; rw [List.length_replicate] at h; exact .inr ⟨by omega, rfl⟩
theorem wDone_bad (g : Nat) (F : Nat → Prop) (form : List UInt8) (w : World) (h : WrAt w g F form true) : Calls Try.prog 15 #[.pointer (some ⟨g, 0, none⟩)] w fun e w' => ∃ A c, e = .returned (.tuple #[.slice A 0 c, .int .i64 3]) ∧ Below w.heap.size w w' := by
  refine (wDone g F form true w h).mono ?_
  rintro e w' ⟨A, n, c, he, ho, _, _, hb⟩
  obtain rfl : n = 0 := ho.1.1.symm
  exact ⟨A, c, he, hb⟩
theorem wDone_ok (g : Nat) (F : Nat → Prop) (form : List UInt8) (w : World) (h : WrAt w g F form false) : Calls Try.prog 15 #[.pointer (some ⟨g, 0, none⟩)] w fun e w' => ∃ A n c, e = .returned (.tuple #[.slice A n c, .int .i64 0]) ∧ n = form.length ∧ Below w.heap.size w w' := by
  refine (wDone g F form false w h).mono ?_
  rintro e w' ⟨A, n, c, he, ho, _, _, hb⟩
  exact ⟨A, n, c, he, ho.1.1.symm, hb⟩
theorem put_seven : putF ⟨0, 7, 0, false, [], zeros32⟩ = [7] := rfl
set_option maxRecDepth 100000 in
set_option maxHeartbeats 4000000 in
theorem walk (a0 : Int) (b1 : Bool) (w : World) (w0 : (Lit.int .i64 a0).wf = true) :
    Calls Try.prog 6 #[.int .i64 a0, .bool b1] w fun e w' => e = .returned (.bool true) ∧ Below w.heap.size w w' := by
  obtain ⟨ha0, ha0'⟩ := wf_i64 w0
  clear w0
  by_cases hr : a0 < 65520 ∨ 65540 < a0
  · go_enter Try.func6, Try.ntmps6
    by_cases h1 : a0 < 65520
    · go_wp2_with fail
      go_ret
      exact ⟨rfl, Below.refl _ _⟩
    have h3 : 65540 < a0 := by omega
    go_wp2_with fail
    go_ret
    exact ⟨rfl, Below.refl _ _⟩
  obtain ⟨k, hk⟩ : ∃ k : Nat, (k : Int) = a0 := ⟨a0.toNat, by omega⟩
  have HK := Lib.hid hk
  have hk1 : ¬ a0 < 65520 := by omega
  have hk2 : ¬ 65540 < a0 := by omega
  have HR : Hid (65520 ≤ a0 ∧ a0 ≤ 65540) := ⟨by omega, by omega⟩
  clear hr ha0 ha0' hk
  have hz := tag_zero
  go_enter Try.func6, Try.ntmps6
  go_wp2_with fail
  refine (wNew w).mono ?_
  rintro e w1 ⟨gw, F, rfl, hw, hF, hb⟩
  have W := Lib.hid hw
  have HF := Lib.hid hF
  have B := Lib.hid hb
  clear hw hF hb hk1 hk2
  go_wp2_with (at_make; refine wpList_makeB isU8 rfl _ _ rfl k rfl rfl HK.out.symm HK.out.symm (by have := HK.out; have := HR.out; omega) (Below.refl w1.heap.size w1) (Nat.le_refl _) ?_; intro w2 hown2 hbel2 hsz2)
  have O2 := Lib.hid hown2
  have W2 := Lib.hid (W.out.to hbel2)
  have HO2 : Hid (Off (some ⟨w1.heap.size, 0, none⟩) k F) := fun _ b o e hf => by
    injection e with e; injection e with e1 _
    have := W.out.lt _ hf; omega
  have B2 := Lib.hid (B.out.trans (hbel2.mono B.out.size))
  have HFW : Hid (∀ k, F k → k < w1.heap.size) := W.out.lt
  clear hown2 hbel2 hsz2 W B
  rw [← fld_bytes (List.replicate k 0)]
  refine (rAdd gw F [] false ⟨3, 0, 0, false, List.replicate k 0, zeros32⟩ (some ⟨w1.heap.size, 0, none⟩) k k w2 W2.out ⟨rfl, ⟨(by decide : (-9223372036854775808 : Int) ≤ 3), (by decide : (3 : Int) ≤ 9223372036854775807)⟩, ⟨(by decide : (-9223372036854775808 : Int) ≤ 0), (by decide : (0 : Int) ≤ 9223372036854775807)⟩, Rd.of_own O2.out, Nat.le_refl _, by have := HK.out; have := HR.out; omega⟩ (by have := HK.out; have := HR.out; omega) (Nat.zero_le _) HO2.out).mono ?_
  have HL := Lib.hid (long_form k)
  obtain ⟨f1, hf1⟩ : ∃ f, wForm [] (putF ⟨3, 0, 0, false, List.replicate k 0, zeros32⟩) false = f := ⟨_, rfl⟩
  obtain ⟨bd, hbd⟩ : ∃ f, wBad [] (putF ⟨3, 0, 0, false, List.replicate k 0, zeros32⟩) false = f := ⟨_, rfl⟩
  rw [hf1, hbd] at HL
  rintro e w3 ⟨rfl, F3, hw3, hs3, hk3⟩
  rw [hf1, hbd] at hw3
  have W3 := Lib.hid hw3
  have HF3 : Hid (∀ b, F3 b → w.heap.size ≤ b) := fun b hf => by
    rcases hs3 b hf with h4 | h4
    · exact HF.out b h4
    · have := B2.out.size; omega
  have B3 := Lib.hid (Keep.below B2.out hk3 B2.out.size HF.out)
  have HRD := Lib.hid (long_read k)
  have hr1 : 65520 ≤ a0 := HR.out.1
  have hr2 : a0 ≤ 65540 := HR.out.2
  clear hf1 hbd hw3 hs3 hk3 O2 W2 HO2 B2 HFW HF
  rcases HL.out with ⟨rfl, hk, hlen⟩ | ⟨rfl, hk, hlen⟩
  · have hs1 : a0 ≤ 65532 := by have := HK.out; omega
    have HLN := Lib.hid hlen
    have HFL : Hid (f1.length ≤ 65536) := by (show _ ≤ _); omega
    clear hk hlen HL hr2
    cases b1
    · have WX := W3
      have BX := B3
      have HLEN : Hid (∀ n : Nat, n = f1.length → (n : Int) = a0 + 4) := fun n h => by have := HLN.out; have := HK.out; omega
      clear W3 B3
      go_wp2_with fail
      refine (wDone_ok gw _ _ _ WX.out).mono ?_
      rintro e w5 ⟨A5, n5, c5, rfl, hn5, hb⟩
      have B5 := Lib.hid (BX.out.trans (hb.mono BX.out.size))
      have hn5' := HLEN.out n5 hn5
      clear hb WX BX hn5
      go_wp2_with (at_make; refine wpList_makeB isU8 rfl _ _ rfl (k + 4) rfl rfl (by have := HK.out; omega) (by have := HK.out; omega) (by have := HK.out; have := HR.out; omega) (Below.refl w5.heap.size w5) (Nat.le_refl _) ?_; intro w6 hown6 hbel6 hsz6)
      have O6 := Lib.hid (Rd.of_own hown6)
      have B6 := Lib.hid (B5.out.trans (hbel6.mono B5.out.size))
      clear hown6 hbel6 hsz6 B5
      refine (pNew _ (k + 4) (k + 4) _ w6 O6.out (Nat.le_refl _) (by have := HK.out; have := HR.out; omega) (by have := HK.out; have := HR.out; omega)).mono ?_
      rintro e w7 ⟨gr, F7, rfl, hp, hF7, hb⟩
      have P := Lib.hid hp
      have HF7 : Hid (∀ b, F7 b → w.heap.size ≤ b) := fun b hf => Nat.le_trans B6.out.size (hF7 b hf)
      have B7 := Lib.hid (B6.out.trans (hb.mono B6.out.size))
      clear hp hF7 hb O6 B6
      have hre : newRS (List.replicate (k + 4) 0) = ⟨List.replicate (k + 4) 0, 0⟩ := by
        rcases HRD.out with ⟨h, _⟩ | ⟨_, h⟩
        · have := HK.out; omega
        · exact h
      rw [hre] at P
      have hl0 : ((leftV ⟨List.replicate (k + 4) 0, 0⟩ : Nat) : Int) = a0 + 4 := by
        show (((List.replicate (k + 4) (0 : UInt8)).length : Nat) : Int) = a0 + 4
        rw [List.length_replicate]; have := HK.out; omega
      have HL0 := Lib.hid hl0
      clear hre hl0
      go_wp2_with fail
      refine (pErr gr F7 ⟨List.replicate (k + 4) 0, 0⟩ w7 P.out).mono ?_
      rintro e w8 ⟨rfl, hb⟩
      replace P := Lib.hid (P.out.to hb)
      replace B7 := Lib.hid (B7.out.trans (hb.mono B7.out.size))
      clear hb
      go_wp2_with fail
      refine (pLeft gr F7 ⟨List.replicate (k + 4) 0, 0⟩ w8 P.out).mono ?_
      rw [HL0.out]
      rintro e w9 ⟨rfl, hb⟩
      replace B7 := Lib.hid (B7.out.trans (hb.mono B7.out.size))
      clear hb
      go_wp2_with fail
      go_ret
      exact ⟨rfl, B7.out⟩
    · go_wp2_with fail
      rw [← fld_seven]
      refine (rAdd gw F3 f1 false ⟨0, 7, 0, false, [], zeros32⟩ none 0 0 w3 W3.out ⟨rfl, ⟨by decide, by decide⟩, ⟨by decide, by decide⟩, Rd.nil _ _ _, Nat.le_refl _, by decide⟩ (by decide) HFL.out (fun h => absurd h (Nat.lt_irrefl 0))).mono ?_
      rw [put_seven]
      have HM := Lib.hid (long_more f1 false)
      obtain ⟨f4, hf4⟩ : ∃ f, wForm f1 [7] false = f := ⟨_, rfl⟩
      obtain ⟨bd4, hbd4⟩ : ∃ f, wBad f1 [7] false = f := ⟨_, rfl⟩
      rw [hf4, hbd4] at HM
      rintro e w4 ⟨rfl, F4, hw4, hs4, hk4⟩
      rw [hf4, hbd4] at hw4
      have W4 := Lib.hid hw4
      have B4 := Lib.hid (Keep.below B3.out hk4 B3.out.size HF3.out)
      clear hf4 hbd4 hw4 hs4 hk4 W3 HF3
      rcases HM.out with ⟨rfl, _, h65, hl4⟩ | ⟨rfl, hbad⟩
      · have hs2 : a0 ≤ 65531 := by have := HLN.out; have := HK.out; omega
        have WX := W4
        have BX := B4
        have HLEN : Hid (∀ n : Nat, n = f4.length → (n : Int) = a0 + 4 + 1) := fun n h => by have := HLN.out; have := HK.out; omega
        clear W4 B4 h65 hl4 HM
        go_wp2_with fail
        refine (wDone_ok gw _ _ _ WX.out).mono ?_
        rintro e w5 ⟨A5, n5, c5, rfl, hn5, hb⟩
        have B5 := Lib.hid (BX.out.trans (hb.mono BX.out.size))
        have hn5' := HLEN.out n5 hn5
        clear hb WX BX hn5
        go_wp2_with (at_make; refine wpList_makeB isU8 rfl _ _ rfl (k + 4) rfl rfl (by have := HK.out; omega) (by have := HK.out; omega) (by have := HK.out; have := HR.out; omega) (Below.refl w5.heap.size w5) (Nat.le_refl _) ?_; intro w6 hown6 hbel6 hsz6)
        have O6 := Lib.hid (Rd.of_own hown6)
        have B6 := Lib.hid (B5.out.trans (hbel6.mono B5.out.size))
        clear hown6 hbel6 hsz6 B5
        refine (pNew _ (k + 4) (k + 4) _ w6 O6.out (Nat.le_refl _) (by have := HK.out; have := HR.out; omega) (by have := HK.out; have := HR.out; omega)).mono ?_
        rintro e w7 ⟨gr, F7, rfl, hp, hF7, hb⟩
        have P := Lib.hid hp
        have HF7 : Hid (∀ b, F7 b → w.heap.size ≤ b) := fun b hf => Nat.le_trans B6.out.size (hF7 b hf)
        have B7 := Lib.hid (B6.out.trans (hb.mono B6.out.size))
        clear hp hF7 hb O6 B6
        have hre : newRS (List.replicate (k + 4) 0) = ⟨List.replicate (k + 4) 0, 0⟩ := by
          rcases HRD.out with ⟨h, _⟩ | ⟨_, h⟩
          · have := HK.out; omega
          · exact h
        rw [hre] at P
        have hl0 : ((leftV ⟨List.replicate (k + 4) 0, 0⟩ : Nat) : Int) = a0 + 4 := by
          show (((List.replicate (k + 4) (0 : UInt8)).length : Nat) : Int) = a0 + 4
          rw [List.length_replicate]; have := HK.out; omega
        have HL0 := Lib.hid hl0
        clear hre hl0
        go_wp2_with fail
        refine (pErr gr F7 ⟨List.replicate (k + 4) 0, 0⟩ w7 P.out).mono ?_
        rintro e w8 ⟨rfl, hb⟩
        replace P := Lib.hid (P.out.to hb)
        replace B7 := Lib.hid (B7.out.trans (hb.mono B7.out.size))
        clear hb
        go_wp2_with fail
        refine (pLeft gr F7 ⟨List.replicate (k + 4) 0, 0⟩ w8 P.out).mono ?_
        rw [HL0.out]
        rintro e w9 ⟨rfl, hb⟩
        replace B7 := Lib.hid (B7.out.trans (hb.mono B7.out.size))
        clear hb
        go_wp2_with fail
        go_ret
        exact ⟨rfl, B7.out⟩
      · have hs2 : 65531 < a0 := by
          rcases hbad with h | h
          · cases h
          · have := HLN.out; have := HK.out; omega
        have WX := W4
        have BX := B4
        clear W4 B4 hbad HM
        go_wp2_with fail
        refine (wDone_bad gw _ _ _ WX.out).mono ?_
        rintro e w5 ⟨A5, c5, rfl, hb⟩
        have B5 := Lib.hid (BX.out.trans (hb.mono BX.out.size))
        clear hb WX BX
        go_wp2_with (at_make; refine wpList_makeB isU8 rfl _ _ rfl (k + 4) rfl rfl (by have := HK.out; omega) (by have := HK.out; omega) (by have := HK.out; have := HR.out; omega) (Below.refl w5.heap.size w5) (Nat.le_refl _) ?_; intro w6 hown6 hbel6 hsz6)
        have O6 := Lib.hid (Rd.of_own hown6)
        have B6 := Lib.hid (B5.out.trans (hbel6.mono B5.out.size))
        clear hown6 hbel6 hsz6 B5
        refine (pNew _ (k + 4) (k + 4) _ w6 O6.out (Nat.le_refl _) (by have := HK.out; have := HR.out; omega) (by have := HK.out; have := HR.out; omega)).mono ?_
        rintro e w7 ⟨gr, F7, rfl, hp, hF7, hb⟩
        have P := Lib.hid hp
        have HF7 : Hid (∀ b, F7 b → w.heap.size ≤ b) := fun b hf => Nat.le_trans B6.out.size (hF7 b hf)
        have B7 := Lib.hid (B6.out.trans (hb.mono B6.out.size))
        clear hp hF7 hb O6 B6
        have hre : newRS (List.replicate (k + 4) 0) = ⟨List.replicate (k + 4) 0, 0⟩ := by
          rcases HRD.out with ⟨h, _⟩ | ⟨_, h⟩
          · have := HK.out; omega
          · exact h
        rw [hre] at P
        have hl0 : ((leftV ⟨List.replicate (k + 4) 0, 0⟩ : Nat) : Int) = a0 + 4 := by
          show (((List.replicate (k + 4) (0 : UInt8)).length : Nat) : Int) = a0 + 4
          rw [List.length_replicate]; have := HK.out; omega
        have HL0 := Lib.hid hl0
        clear hre hl0
        go_wp2_with fail
        refine (pErr gr F7 ⟨List.replicate (k + 4) 0, 0⟩ w7 P.out).mono ?_
        rintro e w8 ⟨rfl, hb⟩
        replace P := Lib.hid (P.out.to hb)
        replace B7 := Lib.hid (B7.out.trans (hb.mono B7.out.size))
        clear hb
        go_wp2_with fail
        refine (pLeft gr F7 ⟨List.replicate (k + 4) 0, 0⟩ w8 P.out).mono ?_
        rw [HL0.out]
        rintro e w9 ⟨rfl, hb⟩
        replace B7 := Lib.hid (B7.out.trans (hb.mono B7.out.size))
        clear hb
        go_wp2_with fail
        go_ret
        exact ⟨rfl, B7.out⟩
  · have hs1 : 65532 < a0 := by have := HK.out; omega
    have HFL : Hid (f1.length ≤ 65536) := by (show _ ≤ _); omega
    clear hk hlen HL hr1
    cases b1
    · have WX := W3
      have BX := B3
      clear W3 B3
      go_wp2_with fail
      refine (wDone_bad gw _ _ _ WX.out).mono ?_
      rintro e w5 ⟨A5, c5, rfl, hb⟩
      have B5 := Lib.hid (BX.out.trans (hb.mono BX.out.size))
      clear hb WX BX
      go_wp2_with (at_make; refine wpList_makeB isU8 rfl _ _ rfl (k + 4) rfl rfl (by have := HK.out; omega) (by have := HK.out; omega) (by have := HK.out; have := HR.out; omega) (Below.refl w5.heap.size w5) (Nat.le_refl _) ?_; intro w6 hown6 hbel6 hsz6)
      have O6 := Lib.hid (Rd.of_own hown6)
      have B6 := Lib.hid (B5.out.trans (hbel6.mono B5.out.size))
      clear hown6 hbel6 hsz6 B5
      refine (pNew _ (k + 4) (k + 4) _ w6 O6.out (Nat.le_refl _) (by have := HK.out; have := HR.out; omega) (by have := HK.out; have := HR.out; omega)).mono ?_
      rintro e w7 ⟨gr, F7, rfl, hp, hF7, hb⟩
      have P := Lib.hid hp
      have HF7 : Hid (∀ b, F7 b → w.heap.size ≤ b) := fun b hf => Nat.le_trans B6.out.size (hF7 b hf)
      have B7 := Lib.hid (B6.out.trans (hb.mono B6.out.size))
      clear hp hF7 hb O6 B6
      have hre : newRS (List.replicate (k + 4) 0) = ⟨[], 3⟩ := by
        rcases HRD.out with ⟨_, h⟩ | ⟨h, _⟩
        · exact h
        · have := HK.out; omega
      rw [hre] at P
      have hb0 : (byteV ⟨[], 3⟩).toNat = 0 := rfl
      have hl0 : leftV ⟨[], 3⟩ = 0 := rfl
      have HB0 := Lib.hid hb0
      have HL0 := Lib.hid hl0
      clear hre hb0 hl0
      go_wp2_with fail
      refine (pErr gr F7 ⟨[], 3⟩ w7 P.out).mono ?_
      rintro e w8 ⟨rfl, hb⟩
      replace P := Lib.hid (P.out.to hb)
      replace B7 := Lib.hid (B7.out.trans (hb.mono B7.out.size))
      clear hb
      go_wp2_with fail
      refine (pLeft gr F7 ⟨[], 3⟩ w8 P.out).mono ?_
      rw [HL0.out]
      rintro e w9 ⟨rfl, hb⟩
      replace P := Lib.hid (P.out.to hb)
      replace B7 := Lib.hid (B7.out.trans (hb.mono B7.out.size))
      clear hb
      go_wp2_with fail
      refine (pByte gr F7 ⟨[], 3⟩ w9 P.out).mono ?_
      rw [HB0.out]
      rintro e w10 ⟨rfl, F8, hp, hs, hkk⟩
      replace B7 := Lib.hid (Keep.below B7.out hkk B7.out.size HF7.out)
      clear hp hs hkk
      go_wp2_with fail
      go_ret
      exact ⟨rfl, B7.out⟩
    · go_wp2_with fail
      rw [← fld_seven]
      refine (rAdd gw F3 f1 true ⟨0, 7, 0, false, [], zeros32⟩ none 0 0 w3 W3.out ⟨rfl, ⟨by decide, by decide⟩, ⟨by decide, by decide⟩, Rd.nil _ _ _, Nat.le_refl _, by decide⟩ (by decide) HFL.out (fun h => absurd h (Nat.lt_irrefl 0))).mono ?_
      rw [put_seven]
      have HM := Lib.hid (long_more f1 true)
      obtain ⟨f4, hf4⟩ : ∃ f, wForm f1 [7] true = f := ⟨_, rfl⟩
      obtain ⟨bd4, hbd4⟩ : ∃ f, wBad f1 [7] true = f := ⟨_, rfl⟩
      rw [hf4, hbd4] at HM
      rintro e w4 ⟨rfl, F4, hw4, hs4, hk4⟩
      rw [hf4, hbd4] at hw4
      have W4 := Lib.hid hw4
      have B4 := Lib.hid (Keep.below B3.out hk4 B3.out.size HF3.out)
      clear hf4 hbd4 hw4 hs4 hk4 W3 HF3
      rcases HM.out with ⟨_, h, _⟩ | ⟨rfl, hbad⟩
      · cases h
      have WX := W4
      have BX := B4
      clear W4 B4 hbad HM
      go_wp2_with fail
      refine (wDone_bad gw _ _ _ WX.out).mono ?_
      rintro e w5 ⟨A5, c5, rfl, hb⟩
      have B5 := Lib.hid (BX.out.trans (hb.mono BX.out.size))
      clear hb WX BX
      go_wp2_with (at_make; refine wpList_makeB isU8 rfl _ _ rfl (k + 4) rfl rfl (by have := HK.out; omega) (by have := HK.out; omega) (by have := HK.out; have := HR.out; omega) (Below.refl w5.heap.size w5) (Nat.le_refl _) ?_; intro w6 hown6 hbel6 hsz6)
      have O6 := Lib.hid (Rd.of_own hown6)
      have B6 := Lib.hid (B5.out.trans (hbel6.mono B5.out.size))
      clear hown6 hbel6 hsz6 B5
      refine (pNew _ (k + 4) (k + 4) _ w6 O6.out (Nat.le_refl _) (by have := HK.out; have := HR.out; omega) (by have := HK.out; have := HR.out; omega)).mono ?_
      rintro e w7 ⟨gr, F7, rfl, hp, hF7, hb⟩
      have P := Lib.hid hp
      have HF7 : Hid (∀ b, F7 b → w.heap.size ≤ b) := fun b hf => Nat.le_trans B6.out.size (hF7 b hf)
      have B7 := Lib.hid (B6.out.trans (hb.mono B6.out.size))
      clear hp hF7 hb O6 B6
      have hre : newRS (List.replicate (k + 4) 0) = ⟨[], 3⟩ := by
        rcases HRD.out with ⟨_, h⟩ | ⟨h, _⟩
        · exact h
        · have := HK.out; omega
      rw [hre] at P
      have hb0 : (byteV ⟨[], 3⟩).toNat = 0 := rfl
      have hl0 : leftV ⟨[], 3⟩ = 0 := rfl
      have HB0 := Lib.hid hb0
      have HL0 := Lib.hid hl0
      clear hre hb0 hl0
      go_wp2_with fail
      refine (pErr gr F7 ⟨[], 3⟩ w7 P.out).mono ?_
      rintro e w8 ⟨rfl, hb⟩
      replace P := Lib.hid (P.out.to hb)
      replace B7 := Lib.hid (B7.out.trans (hb.mono B7.out.size))
      clear hb
      go_wp2_with fail
      refine (pLeft gr F7 ⟨[], 3⟩ w8 P.out).mono ?_
      rw [HL0.out]
      rintro e w9 ⟨rfl, hb⟩
      replace P := Lib.hid (P.out.to hb)
      replace B7 := Lib.hid (B7.out.trans (hb.mono B7.out.size))
      clear hb
      go_wp2_with fail
      refine (pByte gr F7 ⟨[], 3⟩ w9 P.out).mono ?_
      rw [HB0.out]
      rintro e w10 ⟨rfl, F8, hp, hs, hkk⟩
      replace B7 := Lib.hid (Keep.below B7.out hkk B7.out.size HF7.out)
      clear hp hs hkk
      go_wp2_with fail
      go_ret
      exact ⟨rfl, B7.out⟩

set_option maxRecDepth 100000 in
theorem lifted (os : Os) (started : os.Started) (H : Type) (enc : TypeId × Value → H) :
    ReturnsInHanded {} Try.checked os 6 .any (Rows.wireLongSpec.pre6 enc Try.prog Try.f6 Rows.wireLongRow.domain false) (Rows.wireLongSpec.post enc Try.prog Try.f6 false true false false) := by
  refine returnsInHanded_of_change (C := Try.checked) own started (by kernel_rfl) Try.func6
    (ChangeSpec.witness6 (enc := enc) (C := Try.checked) false ⟨#[], #[.int .i64 0, .bool false], []⟩ 8 (by kernel_rfl) (by kernel_rfl) (by kernel_rfl) (by kernel_rfl)) ?_
  intro W base args ds gs before hval0 hW hcnd _
  have hval : ∀ (j : Nat) t v, Try.f6.params[j]? = some t → args[j]? = some v → Value.okWide Try.prog W .any base t v := hval0
  have hW' := hW
  obtain ⟨p, q, hA0, hV, rfl, hfz, hnd⟩ := hW
  have hA : DataW.TrodAll enc Try.prog W 0 (fun _ => true) true Try.f6.params.toList args.toList ds p := hA0
  rw [Try.params6] at hA hval
  obtain ⟨v0, vs0, d0, ds0, p0, q0, hargs, rfl, rfl, h0, r0⟩ := trodAll_cons hA
  obtain ⟨v1, vs1, d1, ds1, p1, q1, rfl, rfl, rfl, h1, r1⟩ := trodAll_cons r0
  obtain ⟨rfl, rfl, rfl⟩ := trodAll_nil r1
  obtain rfl : args = #[v0, v1] := by cases args; simp_all
  obtain ⟨rfl, rfl⟩ := trodVars_none hV
  obtain ⟨a0, rfl, rfl, rfl, w0⟩ := open_int Try.underlying3 (hval 0 3 v0 rfl rfl) h0
  obtain ⟨b1, rfl, rfl, rfl⟩ := open_bool Try.underlying4 (hval 1 4 v1 rfl rfl) h1
  clear hA0 hval0
  refine (walk a0 b1 W w0).mono fun e W' ⟨he, bel⟩ => ?_
  subst he
  exact ⟨_, rfl, _, _, _, [], _, [], hW', trodAll_mk1 (shut_bool Try.underlying4 _), (trodAll_cons_mk (shut_int Try.underlying3 w0) (trodAll_cons_mk (shut_bool Try.underlying4 _) trodAll_mk0)), rfl, bel.frame _, fun h => by cases h⟩

theorem over : Rows.wireLongRow.holds Try.pinned (OpenSpec.ofChange Rows.wireLongSpec) :=
  OpenClaim.holds_of_wide 6 Try.f6 rfl rfl rfl rfl rfl rfl rfl ⟨rfl, rfl, rfl, rfl, rfl⟩ rfl rfl rfl rfl rfl (by kernel_rfl) Try.func6 (by kernel_rfl)
    (of_decide_eq_true (by kernel_rfl)) (by unfold Func.isWrapper; first | (rw [if_pos (by decide +kernel)]; kernel_rfl) | (rw [if_neg (by decide +kernel)]; exact ⟨rfl, rfl⟩))
    (fun os started H enc _ => lifted os started H enc)

theorem proved : Rows.WireLongSaid := over
end Go.Proofs.Ytmhknpkiddgcpaa.wireLong
