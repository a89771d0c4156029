/- For any slot, any two rows of bytes, any two places the law SlotOver of citadellaw15 returns true: bytes that are written over others leave those beside them. Conditions: none beyond those that the statement itself prints. -/
import Derived.Test.YtopilgedcnbdaaaTz
import Derived.Test.YtopilgedcnbdaaaRows
import Derived.Test.YtopilgedcnbdaaaSlW
import Derived.Test.YtopilgedcnbdaaaSlX
import Derived.Test.YtopilgedcnbdaaaBytes
import Derived.WalkKit
import Derived.ProofKit
import Derived.OpenShut
import Derived.ShutString
import Derived.ChangeOld
import Derived.Below
namespace Go.Proofs.Ytopilgedcnbdaaa.slotOver
set_option maxRecDepth 1000000
set_option maxHeartbeats 8000000
open Go.ChangeShapes Go.WideShapes Go.ChangeAt Go.RowKit
open Go.ChangeMaps (open_string shut_string)
set_option linter.unusedVariables false
set_option linter.unusedSimpArgs false
theorem own : ownKnob Try.prog.godebug = none := by kernel_rfl
theorem laidOut : laidOutB Try.prog = true := by kernel_rfl
theorem walk (a0 : Int) (a1 : Option Addr) (len1 cap1 : Nat) (z1 : List Int) (a2 : Option Addr) (len2 cap2 : Nat) (z2 : List Int) (a3 : Int) (a4 : Int) (w : World) (w0 : (Lit.int .i64 a0).wf = true) (w1 : IsRow .u8 w a1 len1 cap1 z1) (w2 : IsRow .u8 w a2 len2 cap2 z2) (w3 : (Lit.int .i64 a3).wf = true) (w4 : (Lit.int .i64 a4).wf = true) :
  Calls Try.prog 3 #[.int .i64 a0, .slice a1 len1 cap1, .slice a2 len2 cap2, .int .i64 a3, .int .i64 a4] w fun e w' => e = .returned (.bool true) ∧ Below w.heap.size w w' := by
 obtain ⟨r1, hcap1, hcap1'⟩ := w1.rd
 obtain ⟨r2, hcap2, hcap2'⟩ := w2.rd
 obtain ⟨hn3, hn3'⟩ := wf_i64 w3
 obtain ⟨hn4, hn4'⟩ := wf_i64 w4
 generalize bytesIn (z1.take len1) = xs at r1
 generalize bytesIn (z2.take len2) = ys at r2
 have R1 := qH r1
 have R2 := qH r2
 have HC1 : Hid (len1 ≤ cap1) := hcap1
 have HC1' : Hid (cap1 ≤ 9223372036854775807) := hcap1'
 have HC2 : Hid (len2 ≤ cap2) := hcap2
 have HC2' : Hid (cap2 ≤ 9223372036854775807) := hcap2'
 have HA3 : Hid (-9223372036854775808 ≤ a3 ∧ a3 ≤ 9223372036854775807) := ⟨hn3, hn3'⟩
 have HA4 : Hid (-9223372036854775808 ≤ a4 ∧ a4 ≤ 9223372036854775807) := ⟨hn4, hn4'⟩
 clear w0 w1 w2 w3 w4 r1 r2 hcap1 hcap1' hcap2 hcap2' hn3 hn3' hn4 hn4'
 go_enter Try.func3, Try.ntmps3
 go_wp2_with fail
 refine (sAwake w).mono ?_
 rintro e wA ⟨rfl, hb⟩
 have BA := qH hb
 replace R1 := qH (R1.out.to hb)
 replace R2 := qH (R2.out.to hb)
 clear hb
 go_wp2_with fail
 refine (sEmpty wA).mono ?_
 rintro e wB ⟨d, rfl, F, hd, hf, hb⟩
 have HD := qH hd
 have HF := qH hf
 have BB := qH (BA.out.trans (hb.mono BA.out.size))
 have OF1 : Hid (Off a1 len1 F) := R1.out.off HF.out
 have OF2 : Hid (Off a2 len2 F) := R2.out.off HF.out
 replace R1 := qH (R1.out.to hb)
 replace R2 := qH (R2.out.to hb)
 have BA0 : Hid (w.heap.size ≤ wA.heap.size) := BA.out.size
 clear hd hf hb BA
 have e1 : IntKind.i64.wrap (4096 - (len1 : Int)) = 4096 - (len1 : Int) := by rw [IntKind.wrap_i64]; have h1 := HC1.out; have h2 := HC1'.out; omega
 have e2 : IntKind.i64.wrap (4096 - (len2 : Int)) = 4096 - (len2 : Int) := by rw [IntKind.wrap_i64]; have h1 := HC2.out; have h2 := HC2'.out; omega
 by_cases c1 : a0 < 0
 ·skip
  go_wp2_with fail
  go_ret
  exact ⟨rfl, BB.out⟩
 by_cases c2 : a0 > 1
 ·skip
  go_wp2_with fail
  go_ret
  exact ⟨rfl, BB.out⟩
 by_cases c3 : (len1 : Int) > 1000
 ·skip
  go_wp2_with fail
  go_ret
  exact ⟨rfl, BB.out⟩
 by_cases c4 : (len2 : Int) > 1000
 ·skip
  go_wp2_with fail
  go_ret
  exact ⟨rfl, BB.out⟩
 by_cases c5 : a3 < 0
 ·skip
  go_wp2_with fail
  go_ret
  exact ⟨rfl, BB.out⟩
 by_cases c6 : a4 < 0
 ·skip
  go_wp2_with fail
  go_ret
  exact ⟨rfl, BB.out⟩
 by_cases c7 : a3 > 4096 - (len1 : Int)
 ·skip
  go_wp2_with fail
  go_ret
  exact ⟨rfl, BB.out⟩
 by_cases c8 : a4 > 4096 - (len2 : Int)
 ·skip
  go_wp2_with fail
  go_ret
  exact ⟨rfl, BB.out⟩
 obtain ⟨k, rfl⟩ : ∃ n : Nat, a0 = (n : Int) := ⟨a0.toNat, by omega⟩
 obtain ⟨p, rfl⟩ : ∃ n : Nat, a3 = (n : Int) := ⟨a3.toNat, by omega⟩
 obtain ⟨q, rfl⟩ : ∃ n : Nat, a4 = (n : Int) := ⟨a4.toNat, by omega⟩
 have HK : Hid (k = 0 ∨ k = 1) := by show _ ∨ _; omega
 have HPN : Hid (p + len1 ≤ 4096) := by show _ ≤ _; omega
 have HQN : Hid (q + len2 ≤ 4096) := by show _ ≤ _; omega
 have HX := qH R1.out.1
 have HY := qH R2.out.1
 obtain ⟨A7, c7', s7, hA7⟩ := slice_at4 isU8 wB.heap.size (n := 4096) (l := p) (by omega)
 obtain ⟨A8, c8', s8, hA8⟩ := slice_at4 isU8 wB.heap.size (n := 4096) (l := q) (by omega)
 have HA7 := qH hA7
 have HA8 := qH hA8
 have HZ : Hid ((List.replicate 4096 (0 : UInt8)).length = 4096) := List.length_replicate
 have HCS1 : Hid ((xs.map bval).length = Nat.min len1 (4096 - p)) := by
  show _ = _
  rw [List.length_map, HX.out]
  exact (Nat.min_eq_left (by have := HPN.out; omega)).symm
 have HCS2 : Hid ((ys.map bval).length = Nat.min len2 (4096 - q)) := by
  show _ = _
  rw [List.length_map, HY.out]
  exact (Nat.min_eq_left (by have := HQN.out; omega)).symm
 have HF1 : Hid (p + (xs.map bval).length ≤ ((List.replicate 4096 (0 : UInt8)).map bval).length) := by
  show _ ≤ _
  rw [List.length_map, List.length_map, HZ.out, HX.out]
  exact HPN.out
 have HS1 : Hid ((setB (List.replicate 4096 0) p xs).length = 4096) := by
  show _ = _
  rw [setB_len (by rw [HZ.out, HX.out]; exact HPN.out), HZ.out]
 have HF2 : Hid (q + (ys.map bval).length ≤ ((setB (List.replicate 4096 0) p xs).map bval).length) := by
  show _ ≤ _
  rw [List.length_map, List.length_map, HS1.out, HY.out]
  exact HQN.out
 have HP7 : Hid (0 < (xs.map bval).length → p < 4096) := fun h => by have := HPN.out; rw [List.length_map, HX.out] at h; omega
 have HP8 : Hid (0 < (ys.map bval).length → q < 4096) := fun h => by have := HQN.out; rw [List.length_map, HY.out] at h; omega
 have HLTF : Hid (∀ j, F j → j < wB.heap.size) := HD.out.lt
 clear hA7 hA8
 go_wp2_with (first
  | (refine wpList_makeS isU8 rfl _ _ rfl 4096 rfl rfl rfl rfl (by decide) ?_; intro w3 hm3 hb3)
  | (refine wpList_copy_splice rfl (.tmp 68) (.tmp 69) 22 22 rfl 5 Try.underlying22 (by kernel_rfl) _ _ _ _ _ _ rfl rfl wB.heap.size p ((List.replicate 4096 (0 : UInt8)).map bval) 5 hm3 (xs.map bval) HCS1.out (fun hp => ⟨HA7.out (HP7.out hp), rd_all (R1.out.to hb3) hp⟩) HF1.out (bvals_one _) wB.heap.size wB hb3 (Nat.le_refl _) ?_; intro w4 hm4 hb4; rw [splice_set] at hm4)
  | (refine wpList_copy_splice rfl (.tmp 73) (.tmp 74) 22 22 rfl 5 Try.underlying22 (by kernel_rfl) _ _ _ _ _ _ rfl rfl wB.heap.size q ((setB (List.replicate 4096 0) p xs).map bval) 5 hm4.out (ys.map bval) HCS2.out (fun hp => ⟨HA8.out (HP8.out hp), rd_all (R2.out.to hb4) hp⟩) HF2.out (bvals_one _) wB.heap.size wB hb4 (Nat.le_refl _) ?_; intro w5 hm5 hb5; rw [splice_set] at hm5))
 have B5 := qH (BB.out.trans (hb5.mono BB.out.size))
 have D5 := qH (HD.out.to hb5)
 replace R1 := qH (R1.out.to hb5)
 replace R2 := qH (R2.out.to hb5)
 have HM5 := qH hm5.out
 clear hm3 hb3 hm4 hb4 hm5 hb5 s7 s8 c1 c2 c3 c4 c5 c6 c7 c8 e1 e2
 have hcalm : Calm k (DS.new 323) := Calm.new (by have := HK.out; omega) (by decide)
 obtain ⟨s1, hw1, hcm1, hl1, ha1, -, -⟩ := writeS_calm (p := p) (b := xs) hcalm HK.out (by rw [HX.out]; exact HPN.out)
 obtain ⟨s2, hw2, hcm2, hl2, ha2, -, -⟩ := writeS_calm (p := q) (b := ys) hcm1 HK.out (by rw [HY.out]; exact HQN.out)
 have HRES := qH (readS_calm (n := 4096) hcm2 HK.out (Nat.le_refl _))
 have HALL : Hid ((allS k s2 64).take 4096 = setB (setB (List.replicate 4096 0) p xs) q ys) := by
  show _ = _
  rw [ha2, ha1, allS_new (by have := HK.out; omega) (by decide)]
  refine List.take_of_length_le ?_
  rw [setB_len (by rw [HS1.out, HY.out]; exact HQN.out), HS1.out]
  exact Nat.le_refl _
 have HW1 := qH hw1
 have HW2 := qH hw2
 have HLN : Hid (0 < (DS.new 323).L.length) := by show _ < _; simp [DS.new]
 have HLN1 : Hid (0 < s1.L.length) := by show _ < _; rw [hl1]; exact HLN.out
 have HLN2 : Hid (0 < s2.L.length) := by show _ < _; rw [hl2]; exact HLN1.out
 clear hcalm hw1 hcm1 hl1 ha1 hw2 hcm2 hl2 ha2
 refine (slWrite d F (DS.new 323) (k : Int) (p : Int) a1 len1 cap1 xs w5 D5.out HLN.out HA3.out.2 R1.out OF1.out HC1.out HC1'.out).mono ?_
 rw [HW1.out]
 rintro e w6 ⟨rfl, hd, hk⟩
 have D6 := qH hd
 have K6 := qH hk
 replace R2 := qH (R2.out.kept hk OF2.out)
 clear hd hk
 go_wp2_with fail
 refine (slWrite d F s1 (k : Int) (q : Int) a2 len2 cap2 ys w6 D6.out HLN1.out HA4.out.2 R2.out OF2.out HC2.out HC2'.out).mono ?_
 rw [HW2.out]
 rintro e w7 ⟨rfl, hd, hk⟩
 have D7 := qH hd
 have K7 := qH (K6.out.trans hk)
 clear hd hk
 go_wp2_with fail
 refine (slRead d F s2 (k : Int) 4096 w7 D7.out HLN2.out).mono ?_
 rintro e w8 ⟨A8', m8, c8'', rfl, hrd, hmc, hc, hb⟩
 have hr8 : readS (k : Int) 4096 s2 = ((allS k s2 64).take 4096, 0) := HRES.out
 rw [hr8] at hrd ⊢
 rw [HALL.out] at hrd
 have RX := qH hrd
 have HM8 : Hid (w8.heap[wB.heap.size]? = some (.cells ((setB (setB (List.replicate 4096 0) p xs) q ys).map bval).toArray 5 (0, 0))) :=
  (hb.block _ (Nat.lt_of_lt_of_le (heap_at_lt HM5.out) K7.out.size)).trans ((K7.out.block _ (heap_at_lt HM5.out) (fun h => by have := HLTF.out _ h; omega)).trans HM5.out)
 have RW : Hid (Rd w8 w8.heap.size (some ⟨wB.heap.size, 0, none⟩) 4096 (setB (setB (List.replicate 4096 0) p xs) q ys)) :=
  rd_cur HM8.out (List.take_of_length_le (by rw [List.length_map, setB_len (by rw [HS1.out, HY.out]; exact HQN.out), HS1.out]; exact Nat.le_refl _)) (by rw [setB_len (by rw [HS1.out, HY.out]; exact HQN.out), HS1.out])
 have BZ : Hid (Below w.heap.size w w8) := (Keep.below B5.out K7.out B5.out.size (fun j hj => Nat.le_trans BA0.out (HF.out j hj))).trans (hb.mono (Nat.le_trans B5.out.size K7.out.size))
 clear hrd hmc hc hb hr8
 go_wp2_with fail
 refine (wSame A8' (some ⟨wB.heap.size, 0, none⟩) m8 4096 c8'' 4096 w8.heap.size _ _ w8 RX.out RW.out).mono ?_
 rintro e w9 ⟨rfl, rfl⟩
 rw [decide_eq_true rfl]
 go_wp2_with fail
 go_ret
 exact ⟨rfl, BZ.out⟩
theorem lifted (os : Os) (started : os.Started) (H : Type) (enc : TypeId × Value → H) :
  ReturnsInHanded {} Try.checked os 3 .any (Rows.slotOverSpec.pre6 enc Try.prog Try.f3 Rows.slotOverRow.domain false) (Rows.slotOverSpec.post enc Try.prog Try.f3 false true false false) := by
 refine returnsInHanded_of_change (C := Try.checked) own started (by kernel_rfl) Try.func3
  (ChangeSpec.witness6 (enc := enc) (C := Try.checked) false ⟨#[], #[.int .i64 0, .slice none 0 0, .slice none 0 0, .int .i64 0, .int .i64 0], []⟩ 8 (by kernel_rfl) (by kernel_rfl) (by kernel_rfl) (by kernel_rfl)) ?_
 intro W base args ds gs before hval0 hW hcnd _
 have hval : ∀ (j : Nat) t v, Try.f3.params[j]? = some t → args[j]? = some v → Value.okWide Try.prog W .any base t v := hval0
 have hW' := hW
 obtain ⟨p, q, hA0, hV, rfl, hfz, hnd⟩ := hW
 have hA : DataW.TrodAll enc Try.prog W 0 (fun _ => true) true Try.f3.params.toList args.toList ds p := hA0
 rw [Try.params3] at hA hval
 obtain ⟨v0, vs0, d0, ds0, p0, q0, hargs, rfl, rfl, h0, r0⟩ := trodAll_cons hA
 obtain ⟨v1, vs1, d1, ds1, p1, q1, rfl, rfl, rfl, h1, r1⟩ := trodAll_cons r0
 obtain ⟨v2, vs2, d2, ds2, p2, q2, rfl, rfl, rfl, h2, r2⟩ := trodAll_cons r1
 obtain ⟨v3, vs3, d3, ds3, p3, q3, rfl, rfl, rfl, h3, r3⟩ := trodAll_cons r2
 obtain ⟨v4, vs4, d4, ds4, p4, q4, rfl, rfl, rfl, h4, r4⟩ := trodAll_cons r3
 obtain ⟨rfl, rfl, rfl⟩ := trodAll_nil r4
 obtain rfl : args = #[v0, v1, v2, v3, v4] := by cases args; simp_all
 obtain ⟨rfl, rfl⟩ := trodVars_none hV
 obtain ⟨a0, rfl, rfl, rfl, w0⟩ := open_int Try.underlying3 (hval 0 3 v0 rfl rfl) h0
 obtain ⟨a1, len1, cap1, rfl⟩ := okWide_slice Try.underlying22 (hval 1 22 v1 rfl rfl)
 have k1 := h1
 have lt1 : ∀ x ∈ p1, x.block < W.heap.size := by obtain ⟨m, hm⟩ := k1; exact DataW.trod_lt m _ _ _ hm
 obtain ⟨z1, w1⟩ : ∃ zs, IsRow .u8 W a1 len1 cap1 zs := by
  obtain ⟨fuel, hf⟩ := h1
  rcases open_ints Try.underlying22 Try.underlying5 (by kernel_rfl) hf with ⟨hcs, _⟩ | ⟨x, l, c, zs, hcs, _, hl, hm, hz, _, hcell, hwz⟩
  ·simp [Value.cells] at hcs
   obtain ⟨rfl, rfl, rfl⟩ := hcs
   exact ⟨[], .inl ⟨rfl, rfl, rfl, rfl⟩⟩
  ·simp [Value.cells] at hcs
   obtain ⟨rfl, rfl, rfl⟩ := hcs
   exact ⟨zs, .inr ⟨_, rfl, hl, hm, by simpa using hz, hcell, hwz⟩⟩
 obtain ⟨a2, len2, cap2, rfl⟩ := okWide_slice Try.underlying22 (hval 2 22 v2 rfl rfl)
 have k2 := h2
 have lt2 : ∀ x ∈ p2, x.block < W.heap.size := by obtain ⟨m, hm⟩ := k2; exact DataW.trod_lt m _ _ _ hm
 obtain ⟨z2, w2⟩ : ∃ zs, IsRow .u8 W a2 len2 cap2 zs := by
  obtain ⟨fuel, hf⟩ := h2
  rcases open_ints Try.underlying22 Try.underlying5 (by kernel_rfl) hf with ⟨hcs, _⟩ | ⟨x, l, c, zs, hcs, _, hl, hm, hz, _, hcell, hwz⟩
  ·simp [Value.cells] at hcs
   obtain ⟨rfl, rfl, rfl⟩ := hcs
   exact ⟨[], .inl ⟨rfl, rfl, rfl, rfl⟩⟩
  ·simp [Value.cells] at hcs
   obtain ⟨rfl, rfl, rfl⟩ := hcs
   exact ⟨zs, .inr ⟨_, rfl, hl, hm, by simpa using hz, hcell, hwz⟩⟩
 obtain ⟨a3, rfl, rfl, rfl, w3⟩ := open_int Try.underlying3 (hval 3 3 v3 rfl rfl) h3
 obtain ⟨a4, rfl, rfl, rfl, w4⟩ := open_int Try.underlying3 (hval 4 3 v4 rfl rfl) h4
 clear hA0 hval0
 refine (walk a0 a1 len1 cap1 z1 a2 len2 cap2 z2 a3 a4 W w0 w1 w2 w3 w4).mono fun e W' ⟨he, bel⟩ => ?_
 subst he
 exact ⟨_, rfl, _, _, _, [], _, [], hW', trodAll_mk1 (shut_bool Try.underlying4 _), (trodAll_cons_mk (shut_int Try.underlying3 w0) (trodAll_cons_mk (Below.trod laidOut (by kernel_rfl) (of_decide_eq_true (by kernel_rfl)) k1 bel lt1) (trodAll_cons_mk (Below.trod laidOut (by kernel_rfl) (of_decide_eq_true (by kernel_rfl)) k2 bel lt2) (trodAll_cons_mk (shut_int Try.underlying3 w3) (trodAll_cons_mk (shut_int Try.underlying3 w4) trodAll_mk0))))), rfl, bel.frame _, fun h => by cases h⟩
theorem over : Rows.slotOverRow.holds Try.pinned (OpenSpec.ofChange Rows.slotOverSpec) :=
 OpenClaim.holds_of_wide 3 Try.f3 rfl rfl rfl rfl rfl rfl rfl ⟨rfl, rfl, rfl, rfl, rfl⟩ rfl rfl rfl rfl rfl (by kernel_rfl) Try.func3 (by kernel_rfl)
  (of_decide_eq_true (by kernel_rfl)) (by unfold Func.isWrapper; first | (rw [if_pos (by decide +kernel)]; kernel_rfl) | (rw [if_neg (by decide +kernel)]; exact ⟨rfl, rfl⟩))
  (fun os started H enc _ => lifted os started H enc)
theorem proved : Rows.SlotOverSaid := over
end Go.Proofs.Ytopilgedcnbdaaa.slotOver