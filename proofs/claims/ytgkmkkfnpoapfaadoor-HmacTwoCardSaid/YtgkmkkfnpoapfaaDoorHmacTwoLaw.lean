/- For any tag and any two numbers the law HmacTwo of citadellaw04 returns true: Same of hmac tells two tags apart that differ in one bit. Conditions: none beyond those that the statement itself prints. -/
import Derived.Test.YtgkmkkfnpoapfaaDoorRows
import Derived.Test.YtgkmkkfnpoapfaaDoorTie
import Derived.Test.YtgkmkkfnpoapfaaDoorCards
import Derived.Test.YtgkmkkfnpoapfaaDoorShaLaid
import Derived.Test.YtgkmkkfnpoapfaaDoorHmacAwake
import Derived.WalkKit
import Derived.ProofKit
import Derived.OpenShut
import Derived.ShutString
import Derived.ChangeOld
import Derived.Below
namespace Go.Proofs.YtgkmkkfnpoapfaaDoor.hmacTwo
open Go.ChangeShapes Go.WideShapes Go.ChangeAt Go.RowKit
open Go.ChangeMaps (open_string shut_string)
set_option linter.unusedVariables false
set_option linter.unusedSimpArgs false

theorem own : ownKnob Tryd.prog.godebug = none := by kernel_rfl
theorem laidOut : laidOutB Tryd.prog = true := by kernel_rfl

theorem arr_bytes {z : List Int} (hl : z.length = 32) (hwf : ∀ x ∈ z, (Lit.int .u8 x).wf = true) : (z.map (Value.int .u8)).toArray = arrB (bytesIn z) ∧ (bytesIn z).length = 32 := by
  refine ⟨?_, by simp [bytesIn, hl]⟩
  unfold arrB bytesIn
  rw [List.map_map]
  congr 1
  refine List.map_congr_left fun x hx => ?_
  obtain ⟨h1, h2⟩ := wf_u8 (hwf x hx)
  simp only [Function.comp, bval]
  congr 1
  rw [← u8_mod]
  omega
theorem bit_ne {m : Nat} (hm : m ≤ 7) : UInt8.ofNat (2 ^ m) ≠ 0 := by
  have : m = 0 ∨ m = 1 ∨ m = 2 ∨ m = 3 ∨ m = 4 ∨ m = 5 ∨ m = 6 ∨ m = 7 := by omega
  rcases this with rfl | rfl | rfl | rfl | rfl | rfl | rfl | rfl <;> decide
theorem turned_ne {X : List UInt8} {j : Nat} {y : UInt8} (hj : j < X.length) (hy : y ≠ 0) : X ≠ X.set j (X.getD j 0 ^^^ y) := by
  intro h
  have h1 : X.getD j 0 = (X.set j (X.getD j 0 ^^^ y)).getD j 0 := by rw [← h]
  rw [show (X.set j (X.getD j 0 ^^^ y)).getD j 0 = X.getD j 0 ^^^ y from by simp [List.getD, hj]] at h1
  have h2 := congrArg (X.getD j 0 ^^^ ·) h1
  simp only [← UInt8.xor_assoc, UInt8.xor_self, UInt8.zero_xor] at h2
  exact hy h2.symm
theorem bit_xor (a : UInt8) (m : Nat) : bits .xor .u8 (a.toNat : Int) ((2 : Int) ^ m % 256) = ((a ^^^ UInt8.ofNat (2 ^ m)).toNat : Int) := by
  rw [← xor_u8, ← u8_mod]
  congr 1
set_option maxRecDepth 100000 in
set_option maxHeartbeats 4000000 in
theorem walk (z0 : List Int) (a1 : Int) (a2 : Int) (w : World) (hpr : Pr w) (w0 : z0.length = 32 ∧ ∀ z ∈ z0, (Lit.int .u8 z).wf = true) (w1 : (Lit.int .i64 a1).wf = true) (w2 : (Lit.int .i64 a2).wf = true) :
    Calls Tryd.prog 6 #[.agg (z0.map (Value.int .u8)).toArray, .int .i64 a1, .int .i64 a2] w fun e w' => e = .returned (.bool true) ∧ Below w.heap.size w w' := by
  obtain ⟨hl0, hwf0⟩ := w0
  obtain ⟨harr0, hx⟩ := arr_bytes hl0 hwf0
  rw [harr0]
  generalize bytesIn z0 = X at hx
  clear harr0 hl0 hwf0
  obtain ⟨ha1, ha1'⟩ := wf_i64 w1
  obtain ⟨ha2, ha2'⟩ := wf_i64 w2
  clear w1 w2
  have HX := Lib.hid hx
  have T0 : Hid (TagAt (w.alloc (.cells (arrB X) 25)) w.heap.size X) := ⟨hx, heap_alloc_last w _⟩
  have B : Hid (Below w.heap.size w (w.alloc (.cells (arrB X) 25))) := (Below.refl _ _).alloc (Nat.le_refl _) _
  have HP := Lib.hid (hpr.to B.out)
  have S1 := Lib.hid (tag_size hx)
  have E1 : Hid ((arrB zeros32).size = (arrB X).size) := by
    show _ = _
    rw [arrB_size, arrB_size, hx]; rfl
  have hz := tag_zero
  clear hpr hx
  go_enter Tryd.func6, Tryd.ntmps6
  go_wp2_with fail
  generalize w.alloc (.cells (arrB X) 25) = w0 at *
  refine (awake w0 HP.out).mono ?_
  rintro e w1 ⟨rfl, hb⟩
  replace T0 := Lib.hid (T0.out.below hb)
  clear HP
  replace B := Lib.hid (B.out.trans (hb.mono B.out.size))
  clear hb
  have hb1 : Below w1.heap.size w1 (w1.alloc (.cells (arrB X) 25)) := (Below.refl _ _).alloc (Nat.le_refl _) _
  have T2 : Hid (TagAt (w1.alloc (.cells (arrB X) 25)) w.heap.size X) := T0.out.below hb1
  have TU : Hid (TagAt (w1.alloc (.cells (arrB X) 25)) w1.heap.size X) := ⟨HX.out, heap_alloc_last w1 _⟩
  have HG : Hid (w.heap.size < w1.heap.size) := heap_at_lt T0.out.2
  replace B := Lib.hid (B.out.trans (hb1.mono B.out.size))
  clear hb1
  go_wp2_with (first | (refine wpList_load_row rfl 25 _ rfl w.heap.size rfl 25 (arrB X) (0, 0) _ T0.out.2 Tryd.underlying25 rfl S1.out ?_) | (refine wpList_store_row rfl 25 _ _ rfl w1.heap.size (arrB X) rfl rfl 25 (arrB zeros32) (heap_alloc_last w1 _) S1.out E1.out (arrB_one _) ?_; rw [World.setRow_alloc_new]) | (refine wpList_load_row rfl 25 _ rfl w.heap.size rfl 25 (arrB X) (0, 0) _ T2.out.2 Tryd.underlying25 rfl S1.out ?_) | (refine wpList_load_row rfl 25 _ rfl w1.heap.size rfl 25 (arrB X) (0, 0) _ TU.out.2 Tryd.underlying25 rfl S1.out ?_))
  clear hz E1 T0
  refine (wSameTag X X (w1.alloc (.cells (arrB X) 25)) HX.out HX.out).mono ?_
  rw [show decide (X = X) = true from decide_eq_true rfl]
  generalize w1.heap.size = g at *
  generalize w1.alloc (.cells (arrB X) 25) = w2 at *
  rintro e w3 ⟨rfl, hb⟩
  replace T2 := Lib.hid (T2.out.below hb)
  replace TU := Lib.hid (TU.out.below hb)
  replace B := Lib.hid (B.out.trans (hb.mono B.out.size))
  clear hb
  by_cases hout : a1 < 0 ∨ 31 < a1 ∨ a2 < 0 ∨ 7 < a2
  · by_cases h1 : a1 < 0
    · go_wp2_with fail
      go_ret
      exact ⟨rfl, B.out⟩
    by_cases h2 : 31 < a1
    · go_wp2_with fail
      go_ret
      exact ⟨rfl, B.out⟩
    by_cases h3 : a2 < 0
    · go_wp2_with fail
      go_ret
      exact ⟨rfl, B.out⟩
    have h4 : 7 < a2 := by omega
    go_wp2_with fail
    go_ret
    exact ⟨rfl, B.out⟩
  obtain ⟨j, rfl⟩ := Int.eq_ofNat_of_zero_le (show 0 ≤ a1 by omega)
  obtain ⟨m, rfl⟩ := Int.eq_ofNat_of_zero_le (show 0 ≤ a2 by omega)
  have hj0 : ¬ (j : Int) < 0 := by omega
  have hj : ¬ (31 : Int) < (j : Int) := by omega
  have hm0 : ¬ (m : Int) < 0 := by omega
  have hm : ¬ (7 : Int) < (m : Int) := by omega
  have hj32 : (j : Int) < 32 := by omega
  clear hout ha1 ha1' ha2 ha2'
  obtain ⟨hcell, hfr⟩ := TU.out.cell (j := j) (by omega)
  have hx := bit_xor (X.getD j 0) m
  change bits .xor .u8 (nth X j : Int) _ = _ at hx
  have HNE := Lib.hid (turned_ne (X := X) (j := j) (by rw [HX.out]; omega) (bit_ne (m := m) (by omega)))
  obtain ⟨z, hzz⟩ : ∃ z, X.getD j 0 ^^^ UInt8.ofNat (2 ^ m) = z := ⟨_, rfl⟩
  rw [hzz] at hx HNE
  clear hzz
  have T3 : Hid (TagAt (w3.setCell ⟨g, j, none⟩ (.int .u8 (z.toNat : Int))) w.heap.size X) := T2.out.other _ _ (Nat.ne_of_lt HG.out)
  have T4 : Hid (TagAt (w3.setCell ⟨g, j, none⟩ (.int .u8 (z.toNat : Int))) g (X.set j z)) := TU.out.set z
  have B3 : Hid (Below w.heap.size w (w3.setCell ⟨g, j, none⟩ (.int .u8 (z.toNat : Int)))) := B.out.setCell (Nat.le_of_lt HG.out) _
  have HL2 : Hid ((X.set j z).length = 32) := by show _ = _; rw [List.length_set]; exact HX.out
  have S2 := Lib.hid (tag_size HL2.out)
  clear TU T2 B
  go_wp2_with (first | (refine wpList_load_row rfl 25 _ rfl w.heap.size rfl 25 (arrB X) (0, 0) _ T3.out.2 Tryd.underlying25 rfl S1.out ?_) | (refine wpList_load_row rfl 25 _ rfl g rfl 25 (arrB (X.set j z)) (0, 0) _ T4.out.2 Tryd.underlying25 rfl S2.out ?_))
  generalize w3.setCell ⟨g, j, none⟩ (.int .u8 (z.toNat : Int)) = w4 at *
  refine (wSameTag X (X.set j z) w4 HX.out HL2.out).mono ?_
  rw [show decide (X = X.set j z) = false from decide_eq_false HNE.out]
  rintro e w5 ⟨rfl, hb⟩
  replace T3 := Lib.hid (T3.out.below hb)
  replace T4 := Lib.hid (T4.out.below hb)
  replace B3 := Lib.hid (B3.out.trans (hb.mono B3.out.size))
  clear hb
  go_wp2_with (first | (refine wpList_load_rowG (by rfl) 25 _ rfl w.heap.size rfl 25 (arrB X) (0, 0) _ T3.out.2 Tryd.underlying25 rfl S1.out ?_) | (refine wpList_load_rowG (by rfl) 25 _ rfl g rfl 25 (arrB (X.set j z)) (0, 0) _ T4.out.2 Tryd.underlying25 rfl S2.out ?_))
  refine (wSameTag (X.set j z) X w5 HL2.out HX.out).mono ?_
  rw [show decide (X.set j z = X) = false from decide_eq_false (fun h => HNE.out h.symm)]
  rintro e w6 ⟨rfl, hb⟩
  replace B3 := Lib.hid (B3.out.trans (hb.mono B3.out.size))
  clear hb
  go_wp2_with fail
  go_ret
  exact ⟨rfl, B3.out⟩

set_option maxRecDepth 100000 in
theorem lifted (os : Os) (started : os.Started) (H : Type) (enc : TypeId × Value → H) :
    ReturnsInHanded {} Tryd.checked os 6 .any (fun w args => (Rows.hmacTwoSpec.pre enc Tryd.prog Tryd.f6 Rows.hmacTwoRow.domain false w args ∧ laidMetH Tryd.prog Rows.hmacTwoRow.laid w) ∧ sizedMet enc Tryd.prog Tryd.f6 (OpenSpec.ofChange Rows.hmacTwoSpec) false w args)
      (Rows.hmacTwoSpec.post enc Tryd.prog Tryd.f6 false true false false) := by
  refine returnsInHanded_of_change_and (C := Tryd.checked) (X := fun w _ => laidMetH Tryd.prog Rows.hmacTwoRow.laid w) (fun _ _ _ hh h => h.of_heap hh) own started (by kernel_rfl) Tryd.func6
    (ChangeSpec.witness_shaped (enc := enc) (C := Tryd.checked) (os := os) (X := fun w _ => laidMetH Tryd.prog Rows.hmacTwoRow.laid w) false (World.doorLaid Tryd.prog 400 os) #[.agg #[.int .u8 0, .int .u8 0, .int .u8 0, .int .u8 0, .int .u8 0, .int .u8 0, .int .u8 0, .int .u8 0, .int .u8 0, .int .u8 0, .int .u8 0, .int .u8 0, .int .u8 0, .int .u8 0, .int .u8 0, .int .u8 0, .int .u8 0, .int .u8 0, .int .u8 0, .int .u8 0, .int .u8 0, .int .u8 0, .int .u8 0, .int .u8 0, .int .u8 0, .int .u8 0, .int .u8 0, .int .u8 0, .int .u8 0, .int .u8 0, .int .u8 0, .int .u8 0], .int .i64 0, .int .i64 0] 8 rfl (World.shaped_of_RefB (by kernel_rfl) (by kernel_rfl)) (by kernel_rfl) (by kernel_rfl) (by kernel_rfl) (door_met os _)) ?_
  intro W base args ds gs before hval0 hW hcnd hsz0 hL _
  have hval : ∀ (j : Nat) t v, Tryd.f6.params[j]? = some t → args[j]? = some v → Value.okWide Tryd.prog W .any base t v := hval0
  have hW' := hW
  obtain ⟨p, q, hA0, hV, rfl, hfz, hnd⟩ := hW
  have hA : DataW.TrodAll enc Tryd.prog W 0 (fun _ => true) true Tryd.f6.params.toList args.toList ds p := hA0
  rw [Tryd.params6] at hA hval
  obtain ⟨v0, vs0, d0, ds0, p0, q0, hargs, rfl, rfl, h0, r0⟩ := trodAll_cons hA
  obtain ⟨v1, vs1, d1, ds1, p1, q1, rfl, rfl, rfl, h1, r1⟩ := trodAll_cons r0
  obtain ⟨v2, vs2, d2, ds2, p2, q2, rfl, rfl, rfl, h2, r2⟩ := trodAll_cons r1
  obtain ⟨rfl, rfl, rfl⟩ := trodAll_nil r2
  obtain rfl : args = #[v0, v1, v2] := by cases args; simp_all
  obtain ⟨rfl, rfl⟩ := trodVars_none hV
  have k0 := h0
  have lt0 : ∀ x ∈ p0, x.block < W.heap.size := by obtain ⟨m, hm⟩ := k0; exact DataW.trod_lt m _ _ _ hm
  obtain ⟨z0, rfl, w0⟩ := open_arrK Tryd.underlying25 Tryd.underlying5 (by kernel_rfl) (by kernel_rfl) (hval 0 25 v0 rfl rfl) h0
  obtain ⟨a1, rfl, rfl, rfl, w1⟩ := open_int Tryd.underlying3 (hval 1 3 v1 rfl rfl) h1
  obtain ⟨a2, rfl, rfl, rfl, w2⟩ := open_int Tryd.underlying3 (hval 2 3 v2 rfl rfl) h2
  clear hA0 hval0
  refine (walk z0 a1 a2 W (pr_of_laid hL) w0 w1 w2).mono fun e W' ⟨he, bel⟩ => ?_
  subst he
  exact ⟨_, rfl, _, _, _, [], _, [], hW', trodAll_mk1 (shut_bool Tryd.underlying4 _), (trodAll_cons_mk (Below.trod laidOut (by kernel_rfl) (of_decide_eq_true (by kernel_rfl)) k0 bel lt0) (trodAll_cons_mk (shut_int Tryd.underlying3 w1) (trodAll_cons_mk (shut_int Tryd.underlying3 w2) trodAll_mk0))), rfl, bel.frame _, fun h => by cases h⟩

theorem over : Rows.hmacTwoRow.holds Tryd.pinned (OpenSpec.ofChange Rows.hmacTwoSpec) :=
  OpenClaim.holds_of_wide 6 Tryd.f6 rfl rfl rfl rfl rfl rfl rfl ⟨rfl, rfl, rfl, rfl, rfl⟩ rfl rfl rfl rfl rfl (by kernel_rfl) Tryd.func6 (by kernel_rfl)
    (of_decide_eq_true (by kernel_rfl)) (by unfold Func.isWrapper; first | (rw [if_pos (by decide +kernel)]; kernel_rfl) | (rw [if_neg (by decide +kernel)]; exact ⟨rfl, rfl⟩))
    (fun os started H enc _ => lifted os started H enc)

theorem wants : ∀ (j : Nat) t, Tryd.f6.params[j]? = some t → Tryd.prog.wantsStandIn t = false := by
  intro j t ht
  rw [Tryd.params6] at ht
  rcases j with _ | j
  · obtain rfl : 25 = t := by simpa using ht
    kernel_rfl
  rcases j with _ | j
  · obtain rfl : 3 = t := by simpa using ht
    kernel_rfl
  rcases j with _ | j
  · obtain rfl : 3 = t := by simpa using ht
    kernel_rfl
  simp at ht
theorem proved : Rows.HmacTwoCardSaid :=
  Claim7.holds_tied_plain_at .later [] [.data] true Rows.hmacTwoCard.stood.harness Rows.hmacTwoCard.stood.looks over (fun _ h => by cases h) (by kernel_rfl) (fun _ h => by cases h) hmacTwo_row_tie rfl ⟨rfl, rfl⟩ (by kernel_rfl) rfl
    (fun f fn hf hfn => by
      obtain rfl : f = 6 := Option.some.inj ((show Tryd.prog.funcNamed "citadel/citadellaw04.HmacTwo" = some 6 by kernel_rfl).symm.trans hf) |>.symm
      obtain rfl : fn = Tryd.f6 := (Option.some.inj (Tryd.func6.symm.trans hfn)).symm
      exact ⟨by kernel_rfl, wants⟩)
    (by kernel_rfl)
end Go.Proofs.YtgkmkkfnpoapfaaDoor.hmacTwo
