/- For any fields and any at most 300 bytes behind them the law WireOrder of citadellaw05 returns true: what was added to wire's writer is taken by its reader in the same order, and what stands behind it stands in front then. Conditions: none beyond those that the statement itself prints. -/
import Derived.Test.YtmhknpkiddgcpaaRows
import Derived.Test.YtmhknpkiddgcpaaWireTaken
import Derived.Test.YtmhknpkiddgcpaaWireAwake
import Derived.SizedLaws
import Derived.WalkKit
import Derived.ProofKit
import Derived.OpenShut
import Derived.ShutString
import Derived.ChangeOld
import Derived.Below
namespace Go.Proofs.Ytmhknpkiddgcpaa.wireOrder
open Go.ChangeShapes Go.WideShapes Go.ChangeAt Go.RowKit
open Go.ChangeMaps (open_string shut_string)
set_option linter.unusedVariables false
set_option linter.unusedSimpArgs false

theorem own : ownKnob Try.prog.godebug = none := by kernel_rfl
theorem laidOut : laidOutB Try.prog = true := by kernel_rfl

def formD (fs : List Fld) (k : Nat) : List UInt8 := ((fs.drop k).map putF).flatten
theorem formD_step {fs : List Fld} {k : Nat} (h : k < fs.length) : formD fs k = putF (fs.getD k Fld.zero) ++ formD fs (k + 1) := by
  unfold formD
  rw [List.drop_eq_getElem_cons h]
  simp only [List.map_cons, List.flatten_cons, List.getD, List.getElem?_eq_getElem h, Option.getD_some]
def OrderRel (w : World) (n g : Nat) (fs : List Fld) (bs : List UInt8) (i : Value) (wr : World) : Prop :=
  ∃ (k : Nat) (F : Nat → Prop), k ≤ n ∧ i = .int .i64 (k : Int) ∧ PrAt wr g F ⟨formD fs k ++ bs, 0⟩ ∧ (∀ k, F k → w.heap.size ≤ k) ∧ Below w.heap.size w wr
set_option maxRecDepth 100000 in
set_option maxHeartbeats 4000000 in
theorem walk (a0 : Option Addr) (len0 cap0 : Nat) (fs0 : List Fld) (a1 : Option Addr) (len1 cap1 : Nat) (z1 : List Int) (w : World) (w0 : RdF w w.heap.size a0 len0 fs0 ∧ len0 ≤ cap0 ∧ cap0 * 88 ≤ 140737488351232) (w1 : IsRow .u8 w a1 len1 cap1 z1) :
    Calls Try.prog 7 #[.slice a0 len0 cap0, .slice a1 len1 cap1] w fun e w' => e = .returned (.bool true) ∧ Below w.heap.size w w' := by
  obtain ⟨r0, hcap0, hcap0'⟩ := w0
  obtain ⟨r1, hcap1, hcap1'⟩ := w1.rd
  generalize bytesIn (z1.take len1) = bs at r1
  clear w1
  have R := Lib.hid r0
  have S := Lib.hid r1
  clear r0 r1
  obtain ⟨big, hbig⟩ : ∃ b, decide (5000 < sumF fs0) = b := ⟨_, rfl⟩
  go_enter Try.func7, Try.ntmps7
  go_wp2_with fail
  refine (awake w).mono ?_
  rintro e w1 ⟨rfl, hb⟩
  have B := Lib.hid hb
  have R1 := Lib.hid (R.out.to hb)
  replace S := Lib.hid (S.out.to hb)
  clear hb
  go_wp2_with fail
  refine (rGreat a0 len0 cap0 _ fs0 w1 R1.out (by omega)).mono ?_
  rw [hbig]
  rintro e w' ⟨rfl, rfl⟩
  cases big
  rotate_left 1
  · go_wp2_with fail
    go_ret
    exact ⟨rfl, B.out⟩
  have HSUM : Hid (sumF fs0 ≤ 5000) := by (show _ ≤ _); have := of_decide_eq_false hbig; omega
  clear hbig
  by_cases hout : 300 < len1
  · go_wp2_with fail
    go_ret
    exact ⟨rfl, B.out⟩
  have hl1 : len1 ≤ 300 := by omega
  go_wp2_with fail
  refine (rFormL a0 len0 cap0 fs0 w1 R1.out HSUM.out (by omega)).mono ?_
  rintro e w2 ⟨A2, n2, c2, rfl, ho, _, _, hn2, hb⟩
  have U := Lib.hid ho.1
  replace S := Lib.hid (S.out.to hb)
  replace B := Lib.hid (B.out.trans (hb.mono B.out.size))
  clear ho hb R1
  go_wp2_with fail
  refine (wCat2 A2 a1 n2 len1 c2 cap1 _ bs w2 U.out S.out (by omega)).mono ?_
  rintro e w3 ⟨A3, n3, c3, rfl, hown3, hb⟩
  have M := Lib.hid (Rd.of_own hown3)
  obtain ⟨hcp3, hcp3'⟩ := own_cap hown3
  have hn3 : n3 ≤ 5300 := by rw [← M.out.1, List.length_append, U.out.1, S.out.1]; omega
  have HBL := Lib.hid S.out.1
  clear hown3 U S
  replace B := Lib.hid (B.out.trans (hb.mono B.out.size))
  clear hb
  go_wp2_with fail
  refine (pNew A3 n3 c3 _ w3 M.out hcp3 hcp3' (by omega)).mono ?_
  rintro e w4 ⟨g, F, rfl, hp, hF, hb⟩
  have e0 : newRS (formF fs0 len0 ++ bs) = ⟨formD fs0 0 ++ bs, 0⟩ := by
    unfold newRS
    rw [if_neg (by rw [M.out.1]; omega)]
    simp only [RS.mk.injEq, and_true]
    congr 1
    unfold formF formD
    rw [List.take_of_length_le (by rw [R.out.1]; exact Nat.le_refl _)]
    rfl
  rw [e0] at hp
  have P := Lib.hid hp
  have HF : Hid (∀ k, F k → w.heap.size ≤ k) := fun k h => Nat.le_trans B.out.size (hF k h)
  replace B := Lib.hid (B.out.trans (hb.mono B.out.size))
  clear hp hF hb M e0
  go_wp2_with fail
  go_loopw [8] (fun i wr => OrderRel w len0 g fs0 bs i wr) (fun i _ => len0 - (intOf i).toNat)
  case atStart => exact ⟨0, F, Nat.zero_le _, rfl, P.out, HF.out, B.out⟩
  case round =>
    clear P HF B
    obtain ⟨k, F, hk, rfl, hp, hF, hb⟩ := hrel
    have P := Lib.hid hp
    have HF := Lib.hid hF
    have B := Lib.hid hb
    have HK := Lib.hid hk
    clear hp hF hb hk
    by_cases hlt : k < len0
    · obtain ⟨b, o, rfl, hbo, hc⟩ := R.out.2 (by omega)
      obtain ⟨A', m, c', h1, h2⟩ := hc k hlt
      have HOKF := Lib.hid h2
      have hrng := rangeAt_below h1 B.out hbo
      have hu := Try.underlying31
      have S37 := Lib.hid (show (Try.prog.info? 31).map (·.size) = some (fldL (fs0.getD k Fld.zero) A' m c').length by rw [fldL_len h2.tl]; kernel_rfl)
      have HSN := Lib.hid (sumF_snoc (fs := fs0) (k := k) (by rw [R.out.1]; exact hlt))
      have HST := Lib.hid (sumF_take fs0 (k + 1))
      have HFS := Lib.hid (formD_step (fs := fs0) (k := k) (by rw [R.out.1]; exact hlt))
      have HM := Lib.hid h2.rd.1
      have HOFF := Lib.hid (Rd.off h2.rd HF.out)
      have hm5 : m ≤ 5000 := by have := HSUM.out; have := HST.out; have := HSN.out; have := HM.out; omega
      clear hc h1 h2 hbo
      generalize fs0.getD k Fld.zero = f at *
      rw [HFS.out, List.append_assoc] at P
      go_wp2_with (refine wpList_load_mid rfl 31 _ rfl b (o + k * 37) rfl (fldL f A' m c') _ hrng hu rfl S37.out ?_)
      refine (rTaken g F f A' m c' (formD fs0 (k + 1) ++ bs) wr P.out ((HOKF.out.below B.out).more B.out.size) (by omega) HOFF.out).mono ?_
      rintro e w5 ⟨rfl, F', hp, hs, hk⟩
      have P5 := Lib.hid hp
      have HF5 : Hid (∀ k, F' k → w.heap.size ≤ k) := fun k h => by
        rcases hs k h with h | h
        · exact HF.out k h
        · have := B.out.size; omega
      have B5 := Lib.hid (Keep.below B.out hk B.out.size HF.out)
      clear hp hs hk hrng hu
      have hk5 : (k : Int) < 140737488351232 := by omega
      go_wp2_with fail
      go_roundw
      case rel => exact ⟨k + 1, F', by omega, by go_num, P5.out, HF5.out, B5.out⟩
      case measure => simp [intOf]; omega
    · obtain rfl : k = len0 := by have := HK.out; omega
      have e1 : formD fs0 k = [] := by unfold formD; rw [List.drop_of_length_le (by rw [R.out.1]; exact Nat.le_refl _)]; rfl
      rw [e1, List.nil_append] at P
      clear e1
      have HL0 : Hid (leftV ⟨bs, 0⟩ = len1) := by (show _ = _); unfold leftV; rw [if_pos rfl]; exact HBL.out
      have HE0 : Hid (endV ⟨bs, 0⟩ = if 0 < len1 then 50 else 0) := by
        show _ = _
        unfold endV
        rw [← HBL.out]
        simp
      go_wp2_with fail
      refine (pErr g F ⟨bs, 0⟩ wr P.out).mono ?_
      rintro e w6 ⟨rfl, hb⟩
      replace P := Lib.hid (P.out.below hb)
      replace B := Lib.hid (B.out.trans (hb.mono B.out.size))
      clear hb
      go_wp2_with fail
      refine (pLeft g F ⟨bs, 0⟩ w6 P.out).mono ?_
      rw [HL0.out]
      rintro e w7 ⟨rfl, hb⟩
      replace P := Lib.hid (P.out.below hb)
      replace B := Lib.hid (B.out.trans (hb.mono B.out.size))
      clear hb
      go_wp2_with fail
      refine (pEnd g F ⟨bs, 0⟩ w7 P.out).mono ?_
      rw [HE0.out]
      rintro e w8 ⟨rfl, hb⟩
      replace B := Lib.hid (B.out.trans (hb.mono B.out.size))
      clear hb P
      by_cases hz : len1 = 0
      · subst hz
        go_wp2_with fail
        go_ret
        exact ⟨rfl, B.out⟩
      · have hpos : 0 < len1 := by omega
        have hne : ((len1 : Int) == 0) = false := by simp; omega
        have hne' : ¬ (len1 : Int) = 0 := by omega
        rw [if_pos hpos]
        go_wp2_with fail
        go_ret
        exact ⟨rfl, B.out⟩

set_option maxRecDepth 100000 in
theorem lifted (os : Os) (started : os.Started) (H : Type) (enc : TypeId × Value → H) :
    ReturnsInHanded {} Try.checked os 7 .any (Rows.wireOrderSpec.pre6 enc Try.prog Try.f7 Rows.wireOrderRow.domain false) (Rows.wireOrderSpec.post enc Try.prog Try.f7 false true false false) := by
  refine returnsInHanded_of_change_sized (C := Try.checked) own started (by kernel_rfl) Try.func7
    (ChangeSpec.witness6 (enc := enc) (C := Try.checked) false ⟨#[], #[.slice none 0 0, .slice none 0 0], []⟩ 8 (by kernel_rfl) (by kernel_rfl) (by kernel_rfl) (by kernel_rfl)) ?_
  intro W base args ds gs before hval0 hW hcnd hsz0 _
  have hval : ∀ (j : Nat) t v, Try.f7.params[j]? = some t → args[j]? = some v → Value.okWide Try.prog W .any base t v := hval0
  have hsz : (DataW.weightsEach Try.prog (Try.f7.params.toList ++ Rows.wireOrderSpec.plain.varTypes Try.prog) (ds ++ gs)).all (· ≤ reachBytes) = true := hsz0
  have hW' := hW
  obtain ⟨p, q, hA0, hV, rfl, hfz, hnd⟩ := hW
  have hA : DataW.TrodAll enc Try.prog W 0 (fun _ => true) true Try.f7.params.toList args.toList ds p := hA0
  rw [Try.params7] at hA hval hsz
  obtain ⟨v0, vs0, d0, ds0, p0, q0, hargs, rfl, rfl, h0, r0⟩ := trodAll_cons hA
  obtain ⟨v1, vs1, d1, ds1, p1, q1, rfl, rfl, rfl, h1, r1⟩ := trodAll_cons r0
  obtain ⟨rfl, rfl, rfl⟩ := trodAll_nil r1
  obtain rfl : args = #[v0, v1] := by cases args; simp_all
  obtain ⟨rfl, rfl⟩ := trodVars_none hV
  have sz0 : ∀ x ∈ d0.weights Try.prog 22, x ≤ reachBytes := fun x hx => by simpa using List.all_eq_true.1 hsz _ (DataW.weights_mem_each (j := 0) rfl rfl x hx)
  have k0 := h0
  have lt0 : ∀ x ∈ p0, x.block < W.heap.size := by obtain ⟨m, hm⟩ := k0; exact DataW.trod_lt m _ _ _ hm
  obtain ⟨a0, len0, cap0, fs0, rfl, w0⟩ := open_flds (hval 0 22 v0 rfl rfl) h0 sz0
  obtain ⟨a1, len1, cap1, rfl⟩ := okWide_slice Try.underlying26 (hval 1 26 v1 rfl rfl)
  have k1 := h1
  have lt1 : ∀ x ∈ p1, x.block < W.heap.size := by obtain ⟨m, hm⟩ := k1; exact DataW.trod_lt m _ _ _ hm
  obtain ⟨z1, w1⟩ : ∃ zs, IsRow .u8 W a1 len1 cap1 zs := by
    obtain ⟨fuel, hf⟩ := h1
    rcases open_ints Try.underlying26 Try.underlying5 (by kernel_rfl) hf with ⟨hcs, _⟩ | ⟨x, l, c, zs, hcs, _, hl, hm, hz, _, hcell, hwz⟩
    · simp [Value.cells] at hcs
      obtain ⟨rfl, rfl, rfl⟩ := hcs
      exact ⟨[], .inl ⟨rfl, rfl, rfl, rfl⟩⟩
    · simp [Value.cells] at hcs
      obtain ⟨rfl, rfl, rfl⟩ := hcs
      exact ⟨zs, .inr ⟨_, rfl, hl, hm, by simpa using hz, hcell, hwz⟩⟩
  clear hA0 hval0
  refine (walk a0 len0 cap0 fs0 a1 len1 cap1 z1 W w0 w1).mono fun e W' ⟨he, bel⟩ => ?_
  subst he
  exact ⟨_, rfl, _, _, _, [], _, [], hW', trodAll_mk1 (shut_bool Try.underlying4 _), (trodAll_cons_mk (Below.trod laidOut (by kernel_rfl) (of_decide_eq_true (by kernel_rfl)) k0 bel lt0) (trodAll_cons_mk (Below.trod laidOut (by kernel_rfl) (of_decide_eq_true (by kernel_rfl)) k1 bel lt1) trodAll_mk0)), rfl, bel.frame _, fun h => by cases h⟩

theorem over : Rows.wireOrderRow.holds Try.pinned (OpenSpec.ofChange Rows.wireOrderSpec) :=
  OpenClaim.holds_of_wide 7 Try.f7 rfl rfl rfl rfl rfl rfl rfl ⟨rfl, rfl, rfl, rfl, rfl⟩ rfl rfl rfl rfl rfl (by kernel_rfl) Try.func7 (by kernel_rfl)
    (of_decide_eq_true (by kernel_rfl)) (by unfold Func.isWrapper; first | (rw [if_pos (by decide +kernel)]; kernel_rfl) | (rw [if_neg (by decide +kernel)]; exact ⟨rfl, rfl⟩))
    (fun os started H enc _ => lifted os started H enc)

theorem proved : Rows.WireOrderSaid := over
end Go.Proofs.Ytmhknpkiddgcpaa.wireOrder
