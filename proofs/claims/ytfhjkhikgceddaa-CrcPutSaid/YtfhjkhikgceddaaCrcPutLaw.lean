/- For any row of at most 5000 bytes the law CrcPut of citadellaw02 returns true: Put and Check of crc answer as the chapter says, and what they hand back is the caller's own. Conditions: none beyond those that the statement itself prints. -/
import Derived.Test.YtfhjkhikgceddaaRows
import Derived.Test.YtfhjkhikgceddaaCrcW
import Derived.WalkKit
import Derived.ProofKit
import Derived.OpenShut
import Derived.ShutString
import Derived.ChangeOld
import Derived.Below
namespace Go.Proofs.Ytfhjkhikgceddaa.crcPut
open Go.ChangeShapes Go.WideShapes Go.ChangeAt Go.RowKit
open Go.ChangeMaps (open_string shut_string)
set_option linter.unusedVariables false

theorem own : ownKnob Try.prog.godebug = none := by kernel_rfl
theorem laidOut : laidOutB Try.prog = true := by kernel_rfl

/-- The round over what Put handed back, while what Check handed back stays as it is. -/
def IncP (B C n c m d : Nat) (A A' : Option Addr) (cs : List UInt8) (w : World) (i : Value) (wr : World) : Prop :=
  ∃ (k : Nat) (bs : List UInt8), k ≤ n ∧ i = .int .i64 (k : Int) ∧ wr.ownsRow B 5 1 (.slice A n c) n (bs.map bval) ∧ wr.ownsRow C 5 1 (.slice A' m d) m (cs.map bval) ∧ Below B w wr
def TurnRel (w : World) (i : Value) (wr : World) : Prop :=
  ∃ k : Nat, k ≤ 2 ∧ i = .int .i64 (k : Int) ∧ Below w.heap.size w wr
set_option maxRecDepth 100000 in
set_option maxHeartbeats 2000000 in
theorem walk (a0 : Option Addr) (len0 cap0 : Nat) (z0 : List Int) (w : World) (w0 : IsRow .u8 w a0 len0 cap0 z0) :
    Calls Try.prog 4 #[.slice a0 len0 cap0] w fun e w' => e = .returned (.bool true) ∧ Below w.heap.size w w' := by
  obtain ⟨r0, hcap0, hcap0'⟩ := w0.rd
  generalize bytesIn (z0.take len0) = xs at r0
  clear w0
  have R := Lib.hid r0
  clear r0
  by_cases hl : 5000 < len0
  · go_enter Try.func4, Try.ntmps4
    go_wp2_with fail
    go_ret
    exact ⟨rfl, Below.refl _ _⟩
  go_enter Try.func4, Try.ntmps4
  go_wp2_with fail
  refine (refCopy a0 len0 cap0 xs w R.out (by omega)).mono ?_
  rintro e w1 ⟨A1, n1, c1, rfl, hown1, hb⟩
  have M := Lib.hid (Rd.of_own hown1)
  have BW := Lib.hid hb
  have hc1 := own_cap hown1
  obtain ⟨hc1, hc1'⟩ := hc1
  obtain rfl : n1 = len0 := by rw [← M.out.1, R.out.1]
  replace R := Lib.hid (R.out.to hb)
  clear hown1 hb
  go_wp2_with fail
  go_loopw [4, 10, 11] (fun i _ _ wr => TurnRel w1 i wr) (fun i _ _ _ => 2 - (intOf i).toNat)
  case atStart => exact ⟨0, Nat.zero_le _, rfl, Below.refl _ _⟩
  case round =>
    obtain ⟨t, ht, rfl, hb⟩ := hrel
    have M' := Lib.hid (M.out.to hb)
    have R' := Lib.hid (R.out.to hb)
    have BT := Lib.hid hb
    have hs1 := hb.size
    clear hb
    have HT := Lib.hid ht
    by_cases htl : t < 2
    · have htI : (t : Int) < 2 := by omega
      have HT2 := Lib.hid htl
      clear ht htl
      go_wp2_with fail
      refine (wCrcPut A1 n1 c1 xs wr M'.out (by omega)).mono ?_
      rintro e w2 ⟨A2, n2, c2, rfl, hown2, hb⟩
      have P := Lib.hid (Rd.of_own hown2)
      have O := Lib.hid hown2
      have hn2 : n2 ≤ 5004 := by rw [← P.out.1, List.length_append, enc_len, R.out.1]; omega
      have hs2 := hb.size
      have PB : Hid (∀ g : Nat, 0 < n2 → A2 = some ⟨g, 0, none⟩ → g < w2.heap.size) := fun g h0 e => by
        obtain ⟨b, o, e', hlt, _⟩ := P.out.2 h0
        rw [e] at e'; injection e' with e'; injection e' with e'; omega
      clear hown2
      replace M' := Lib.hid (M'.out.to hb)
      replace R' := Lib.hid (R'.out.to hb)
      replace BT := Lib.hid (BT.out.trans (hb.mono BT.out.size))
      clear hb
      go_wp2_with fail
      refine (wCheck A1 n1 c1 xs w2 M'.out (by omega) hc1 hc1').mono ?_
      rintro e w3 ⟨A3, n3, c3, rfl, hown3, hb⟩
      have C := Lib.hid (Rd.of_own hown3)
      have OC := Lib.hid hown3
      have hn3 : n3 ≤ 5000 := by
        rw [← C.out.1]; unfold chkOf; split
        · rw [List.length_take, R.out.1]; omega
        · simp
      have hs3 := hb.size
      clear hown3
      replace M' := Lib.hid (M'.out.to hb)
      replace R' := Lib.hid (R'.out.to hb)
      replace P := Lib.hid (P.out.to hb)
      replace O := Lib.hid (own_below O.out hb)
      replace BT := Lib.hid (BT.out.trans (hb.mono BT.out.size))
      clear hb
      go_wp2_with fail
      refine (refCheck a0 n1 cap0 xs w3 R'.out (by omega) hcap0 hcap0').mono ?_
      rintro e w4 ⟨A4, n4, c4, rfl, hown4, hb⟩
      have D := Lib.hid (Rd.of_own hown4)
      have hn4 : n4 ≤ 5000 := by rw [← D.out.1, C.out.1]; exact hn3
      clear hown4
      replace M' := Lib.hid (M'.out.to hb)
      replace R' := Lib.hid (R'.out.to hb)
      replace P := Lib.hid (P.out.to hb)
      replace C := Lib.hid (C.out.to hb)
      replace O := Lib.hid (own_below O.out hb)
      replace OC := Lib.hid (own_below OC.out hb)
      replace BT := Lib.hid (BT.out.trans (hb.mono BT.out.size))
      clear hb
      go_wp2_with fail
      refine (refCrcPut a0 n1 cap0 xs w4 R'.out (by omega)).mono ?_
      rintro e w5 ⟨A5, n5, c5, rfl, hown5, hb⟩
      have E := Lib.hid (Rd.of_own hown5)
      have hn5 : n5 ≤ 5004 := by rw [← E.out.1, P.out.1]; exact hn2
      clear hown5
      replace M' := Lib.hid (M'.out.to hb)
      replace R' := Lib.hid (R'.out.to hb)
      replace P := Lib.hid (P.out.to hb)
      replace C := Lib.hid (C.out.to hb)
      replace D := Lib.hid (D.out.to hb)
      replace O := Lib.hid (own_below O.out hb)
      replace OC := Lib.hid (own_below OC.out hb)
      replace BT := Lib.hid (BT.out.trans (hb.mono BT.out.size))
      clear hb
      go_wp2_with fail
      refine (refSameBT A2 A5 n2 n5 c2 c5 _ _ w5 rfl P.out E.out (by omega) (by omega)).mono ?_
      rintro e w6 ⟨rfl, hb⟩
      replace M' := Lib.hid (M'.out.to hb)
      replace R' := Lib.hid (R'.out.to hb)
      replace C := Lib.hid (C.out.to hb)
      replace D := Lib.hid (D.out.to hb)
      replace O := Lib.hid (own_below O.out hb)
      replace OC := Lib.hid (own_below OC.out hb)
      replace BT := Lib.hid (BT.out.trans (hb.mono BT.out.size))
      clear hb
      clear P E
      go_wp2_with fail
      refine (refSameBT A3 A4 n3 n4 c3 c4 _ _ w6 rfl C.out D.out (by omega) (by omega)).mono ?_
      rintro e w7 ⟨rfl, hb⟩
      replace M' := Lib.hid (M'.out.to hb)
      replace R' := Lib.hid (R'.out.to hb)
      replace O := Lib.hid (own_below O.out hb)
      replace OC := Lib.hid (own_below OC.out hb)
      replace BT := Lib.hid (BT.out.trans (hb.mono BT.out.size))
      clear hb
      clear C D
      generalize chkOk xs = ok
      go_wp2_with fail
      refine (refSameBT A1 a0 n1 n1 c1 cap0 xs xs w7 rfl M'.out R'.out (by omega) (by omega)).mono ?_
      rintro e w8 ⟨rfl, hb⟩
      replace O := Lib.hid (own_below O.out hb)
      replace OC := Lib.hid (own_below OC.out hb)
      replace BT := Lib.hid (BT.out.trans (hb.mono BT.out.size))
      clear hb
      clear M' R'
      have O8 := Lib.hid (own_mono O.out hs1)
      clear O
      go_wp2_with fail
      go_loopw [10] (fun i wr => IncP w1.heap.size w2.heap.size n2 c2 n3 c3 A2 A3 (chkOf xs) w1 i wr) (fun i _ => n2 - (intOf i).toNat)
      case atStart => exact ⟨0, _, Nat.zero_le _, rfl, O8.out, OC.out, BT.out⟩
      case round =>
        obtain ⟨k, bs, hk, rfl, hown, hownc, hbel⟩ := hrel
        by_cases hlt : k < n2
        · obtain ⟨g, rfl, hg⟩ := own_head hown (by omega)
          obtain ⟨hcell, hfr⟩ := own_cell (j := k) hown hlt
          have hgC := PB.out g (by omega) rfl
          have HC := Lib.hid hownc
          have HG := Lib.hid hgC
          clear hownc hgC
          go_wp2
          go_roundw
          case rel =>
            obtain ⟨h1, h2⟩ := own_set (j := k) hown hbel _ (u8_inc (nth bs k)) hg
            exact ⟨k + 1, _, by omega, by go_num, h1, ownsRow_setCell_below HC.out HG.out _, h2⟩
          case measure => simp [intOf]; omega
        · obtain rfl : k = n2 := by omega
          have HC := Lib.hid (own_mono hownc (Nat.le_trans hs1 hs2))
          have HB := Lib.hid hbel
          clear hown hownc hbel OC O8 BT PB
          go_wp2
          go_loopw [11] (fun i wr => IncRel w1.heap.size n3 c3 A3 w1 i wr) (fun i _ => n3 - (intOf i).toNat)
          case atStart => exact ⟨0, _, Nat.zero_le _, rfl, HC.out, HB.out⟩
          case round =>
            obtain ⟨k, bs, hk, rfl, hown, hbel⟩ := hrel
            by_cases hlt : k < n3
            · obtain ⟨g, rfl, hg⟩ := own_head hown (by omega)
              obtain ⟨hcell, hfr⟩ := own_cell (j := k) hown hlt
              go_wp2
              go_roundw
              case rel =>
                obtain ⟨h1, h2⟩ := own_set (j := k) hown hbel _ (u8_inc (nth bs k)) hg
                exact ⟨k + 1, _, by omega, by go_num, h1, h2⟩
              case measure => simp [intOf]; omega
            · obtain rfl : k = n3 := by omega
              have HB := Lib.hid hbel
              clear hown hbel HC
              go_wp2
              go_roundw
              case rel => exact ⟨t + 1, by have := HT2.out; omega, by go_num, HB.out⟩
              case measure => simp [intOf]; omega
    · obtain rfl : t = 2 := by omega
      go_wp2
      go_ret
      exact ⟨rfl, BW.out.trans (BT.out.mono BW.out.size)⟩

set_option maxRecDepth 100000 in
theorem lifted (os : Os) (started : os.Started) (H : Type) (enc : TypeId × Value → H) :
    ReturnsInHanded {} Try.checked os 4 .any (Rows.crcPutSpec.pre6 enc Try.prog Try.f4 Rows.crcPutRow.domain false) (Rows.crcPutSpec.post enc Try.prog Try.f4 false true false false) := by
  refine returnsInHanded_of_change (C := Try.checked) own started (by kernel_rfl) Try.func4
    (ChangeSpec.witness6 (enc := enc) (C := Try.checked) false ⟨#[], #[.slice none 0 0], []⟩ 8 (by kernel_rfl) (by kernel_rfl) (by kernel_rfl) (by kernel_rfl)) ?_
  intro W base args ds gs before hval0 hW hcnd _
  have hval : ∀ (j : Nat) t v, Try.f4.params[j]? = some t → args[j]? = some v → Value.okWide Try.prog W .any base t v := hval0
  have hW' := hW
  obtain ⟨p, q, hA0, hV, rfl, hfz, hnd⟩ := hW
  have hA : DataW.TrodAll enc Try.prog W 0 (fun _ => true) true Try.f4.params.toList args.toList ds p := hA0
  rw [Try.params4] at hA hval
  obtain ⟨v0, vs0, d0, ds0, p0, q0, hargs, rfl, rfl, h0, r0⟩ := trodAll_cons hA
  obtain ⟨rfl, rfl, rfl⟩ := trodAll_nil r0
  obtain rfl : args = #[v0] := by cases args; simp_all
  obtain ⟨rfl, rfl⟩ := trodVars_none hV
  obtain ⟨a0, len0, cap0, rfl⟩ := okWide_slice Try.underlying23 (hval 0 23 v0 rfl rfl)
  have k0 := h0
  have lt0 : ∀ x ∈ p0, x.block < W.heap.size := by obtain ⟨m, hm⟩ := k0; exact DataW.trod_lt m _ _ _ hm
  obtain ⟨z0, w0⟩ : ∃ zs, IsRow .u8 W a0 len0 cap0 zs := by
    obtain ⟨fuel, hf⟩ := h0
    rcases open_ints Try.underlying23 Try.underlying5 (by kernel_rfl) hf with ⟨hcs, _⟩ | ⟨x, l, c, zs, hcs, _, hl, hm, hz, _, hcell, hwz⟩
    · simp [Value.cells] at hcs
      obtain ⟨rfl, rfl, rfl⟩ := hcs
      exact ⟨[], .inl ⟨rfl, rfl, rfl, rfl⟩⟩
    · simp [Value.cells] at hcs
      obtain ⟨rfl, rfl, rfl⟩ := hcs
      exact ⟨zs, .inr ⟨_, rfl, hl, hm, by simpa using hz, hcell, hwz⟩⟩
  clear hA0 hval0
  refine (walk a0 len0 cap0 z0 W w0).mono fun e W' ⟨he, bel⟩ => ?_
  subst he
  exact ⟨_, rfl, _, _, _, [], _, [], hW', trodAll_mk1 (shut_bool Try.underlying4 _), (trodAll_cons_mk (Below.trod laidOut (by kernel_rfl) (of_decide_eq_true (by kernel_rfl)) k0 bel lt0) trodAll_mk0), rfl, bel.frame _, fun h => by cases h⟩

theorem over : Rows.crcPutRow.holds Try.pinned (OpenSpec.ofChange Rows.crcPutSpec) :=
  OpenClaim.holds_of_wide 4 Try.f4 rfl rfl rfl rfl rfl rfl rfl ⟨rfl, rfl, rfl, rfl, rfl⟩ rfl rfl rfl rfl rfl (by kernel_rfl) Try.func4 (by kernel_rfl)
    (of_decide_eq_true (by kernel_rfl)) (by unfold Func.isWrapper; first | (rw [if_pos (by decide +kernel)]; kernel_rfl) | (rw [if_neg (by decide +kernel)]; exact ⟨rfl, rfl⟩))
    (fun os started H enc _ => lifted os started H enc)


theorem proved : Rows.CrcPutSaid := over
end Go.Proofs.Ytfhjkhikgceddaa.crcPut
