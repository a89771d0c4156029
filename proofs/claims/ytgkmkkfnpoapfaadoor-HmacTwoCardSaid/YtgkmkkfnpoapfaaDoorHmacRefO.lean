/- Contracts of the document's own hmac (citadelref04): sealed messages. -/
import Derived.Test.YtgkmkkfnpoapfaaDoorHmacRefS
namespace Go.Proofs.YtgkmkkfnpoapfaaDoor
open Go.RowKit
set_option linter.unusedVariables false
set_option linter.unusedSimpArgs false

/-- What a function hands back that opens: bytes of the caller's own, and whether it is so. -/
def RetO (w : World) (bs : List UInt8) (ok : Bool) (e : Ending) (w' : World) : Prop :=
  ∃ A n c, e = .returned (.tuple #[.slice A n c, .bool ok]) ∧ OwR w' w.heap.size A n bs ∧ n ≤ c ∧ c ≤ 9223372036854775807 ∧ Below w.heap.size w w'
theorem OwR.nil (w : World) (B : Nat) (A : Option Addr) : OwR w B A 0 [] := ⟨Rd.nil _ _ _, fun h => absurd h (Nat.lt_irrefl 0)⟩

set_option maxRecDepth 1000000 in
set_option maxHeartbeats 1000000 in
theorem rSeal (A A' : Option Addr) (n m c d : Nat) (k bs : List UInt8) (w : World) (ha : Rd w w.heap.size A n k) (hb : Rd w w.heap.size A' m bs) (hn : n ≤ 1000000000) (hm : m ≤ 999999000) :
    Calls Tryd.prog 18 #[.slice A n c, .slice A' m d] w fun e w' => RetB 5 w (sealL k bs) e w' := by
  have HE : Hid (sealL k bs = bs ++ hmacL k bs) := rfl
  have HL := Lib.hid (hmacL_len k bs)
  have R := Lib.hid ha
  have S := Lib.hid hb
  clear ha hb
  go_enter Tryd.func18, Tryd.ntmps18
  go_wp2_with fail
  refine (rHmac A A' n m c d k bs w R.out S.out hn hm).mono ?_
  generalize hmacL k bs = t at *
  rintro e w1 ⟨rfl, hb⟩
  have B := Lib.hid hb
  replace S := Lib.hid (S.out.to hb)
  clear hb R
  go_wp2_with fail
  refine (rTagBytes t w1 HL.out).mono ?_
  rintro e w2 ⟨A2, n2, c2, rfl, hown2, hb⟩
  have U := Lib.hid (Rd.of_own hown2)
  obtain rfl : n2 = 32 := (Rd.of_own hown2).1.symm.trans HL.out
  clear hown2
  replace S := Lib.hid (S.out.to hb)
  replace B := Lib.hid (B.out.trans (hb.mono B.out.size))
  clear hb
  go_wp2_with fail
  refine (refCat A' A2 m 32 d c2 bs t w2 S.out U.out (by omega)).mono ?_
  rintro e w3 h
  rw [← HE.out] at h
  have H := Lib.hid (RetB.from B.out h)
  obtain ⟨A3, n3, c3, rfl, _, _⟩ := h
  go_wp2_with fail
  go_ret
  exact H.out

set_option maxRecDepth 1000000 in
set_option maxHeartbeats 1000000 in
theorem rOpen (A A' : Option Addr) (n m c d : Nat) (k s : List UInt8) (w : World) (ha : Rd w w.heap.size A n k) (hb : Rd w w.heap.size A' m s) (hn : n ≤ 1000000000) (hm : m ≤ 999999000) (hd : m ≤ d) (hd' : d ≤ 9223372036854775807) :
    Calls Tryd.prog 17 #[.slice A n c, .slice A' m d] w fun e w' => RetO w (openL k s) (openOk k s) e w' := by
  have R := Lib.hid ha
  have S := Lib.hid hb
  by_cases h32 : (m : Int) - 32 < 0
  · have e1 : openOk k s = false := by
      unfold openOk
      rw [hb.1, decide_eq_false (by omega)]; rfl
    have HE : Hid (openOk k s = false ∧ openL k s = []) := ⟨e1, by rw [openL, e1]; rfl⟩
    clear ha hb e1
    go_enter Tryd.func17, Tryd.ntmps17
    go_wp2_with fail
    go_ret2
    rw [HE.out.1, HE.out.2]
    exact ⟨_, _, _, rfl, OwR.nil _ _ _, Nat.le_refl _, by decide, Below.refl _ _⟩
  · obtain ⟨p, rfl⟩ : ∃ p, m = p + 32 := ⟨m - 32, by omega⟩
    have e0 : ((p + 32 : Nat) : Int) - 32 = (p : Int) := by omega
    have e1 : openOk k s = decide (sealL k (s.take p) = s) := by
      unfold openOk
      rw [hb.1, decide_eq_true (by omega), Nat.add_sub_cancel, Bool.true_and]
    have HE : Hid (openOk k s = decide (sealL k (s.take p) = s) ∧ openL k s = if openOk k s = true then s.take p else []) := ⟨e1, by rw [openL, hb.1, Nat.add_sub_cancel]⟩
    have s0 := slice_h isU8 A' (h := p) (by omega) hd .i64
    have hp : ¬ (p : Int) < 0 := by omega
    clear ha hb e1
    go_enter Tryd.func17, Tryd.ntmps17
    go_wp2_with fail
    refine (rSeal A A' n p c d k (s.take p) w R.out (S.out.front (by omega)) hn (by omega)).mono ?_
    rintro e w1 ⟨A1, n1, c1, rfl, hown1, hb⟩
    have U := Lib.hid (Rd.of_own hown1)
    have hn1 : n1 ≤ 999999999 := by rw [← U.out.1, sealL_len, List.length_take]; omega
    have B := Lib.hid hb
    clear hown1
    replace S := Lib.hid (S.out.to hb)
    clear hb
    go_wp2_with fail
    refine (refSameB A1 A' n1 (p + 32) c1 d _ s w1 U.out S.out (by omega) (by omega)).mono ?_
    generalize decide (sealL k (s.take p) = s) = b at *
    rintro e w2 ⟨rfl, hb⟩
    replace S := Lib.hid (S.out.to hb)
    replace B := Lib.hid (B.out.trans (hb.mono B.out.size))
    clear hb
    cases b
    · go_wp2_with fail
      go_ret2
      rw [HE.out.2, HE.out.1]
      exact ⟨_, _, _, rfl, OwR.nil _ _ _, Nat.le_refl _, by decide, B.out⟩
    · go_wp2_with fail
      refine (refCopy A' p d (s.take p) w2 (S.out.front (by omega)) (by omega)).mono ?_
      rintro e w3 h
      have H := Lib.hid (RetR.from B.out h.toR)
      obtain ⟨A3, n3, c3, rfl, _, _⟩ := h
      go_wp2_with fail
      go_ret2
      rw [HE.out.2, HE.out.1]
      obtain ⟨A4, n4, c4, e4, h1, h2, h3, h4⟩ := H.out
      simp only [Ending.returned.injEq] at e4
      injection e4 with e5 e6 e7
      subst e5; subst e6; subst e7
      exact ⟨_, _, _, rfl, h1, h2, h3, h4⟩
end Go.Proofs.YtgkmkkfnpoapfaaDoor
