/- awake of layer 10 (citadellaw10). -/
import Derived.Test.YtkaobafgecoomaaChE
namespace Go.Proofs.Ytkaobafgecoomaa
open Go.RowKit
set_option linter.unusedVariables false
set_option linter.unusedSimpArgs false

theorem rd_topMC {w : World} (bs : List UInt8) (vs : List Value) (T : TypeId) (fr : Nat × Nat) (h : bs.map bval = vs) : Rd (w.alloc (.cells vs.toArray T fr)) (w.alloc (.cells vs.toArray T fr)).heap.size (some ⟨w.heap.size, 0, none⟩) vs.length bs := by
  subst h
  refine ⟨by simp, fun hn => ⟨w.heap.size, 0, rfl, by simp, fun j hj => ?_⟩⟩
  have hl : j < bs.length := by simpa using hj
  rw [World.cell?_alloc_mark, nth_of_lt hl]
  simp [hl, bval]
theorem strings_info : (Try.prog.info? 9).map (fun i => (i.zero, i.size)) = some (some (.string ⟨#[]⟩), 1) := by kernel_rfl
def exStr : Nat → ByteArray | 0 => ⟨#[97]⟩ | 1 => ⟨#[98]⟩ | _ => ⟨#[99]⟩
def exStrs : Array Value := #[.string ⟨#[97]⟩, .string ⟨#[98]⟩, .string ⟨#[99]⟩]
theorem exStr_at {W : World} {g i : Nat} (h : W.heap[g]? = some (.cells exStrs 9 (0, 0))) (hi : i < 3) : W.cell? ⟨g, i, none⟩ = some (.string (exStr i)) := by
  rcases i with _ | _ | _ | i
  · simp [World.cell?, h, exStrs, exStr]
  · simp [World.cell?, h, exStrs, exStr]
  · simp [World.cell?, h, exStrs, exStr]
  · omega
theorem exStr_data : ∀ i, i < 3 → (exStr i).data.toList = exM.getD i [] ∧ (exStr i).size = 1 := by decide +kernel
theorem exS_lens : ∀ i, i < 4 → (exS i).length ≤ 2 := by decide +kernel
set_option maxRecDepth 1000000 in
set_option maxHeartbeats 4000000 in
theorem awake (w : World) : Calls Try.prog 16 #[] w fun e w' => e = .returned (.bool true) ∧ Below w.heap.size w w' := by
  have kc := fun (w : World) (C : Array Value) (n c : Nat) => Lib.run_convert_bytes_const (P := Try.prog) w 27 5 C n c Try.underlying27 Try.underlying5
  have C1 := Lib.hid (CB.new w 1 1 2 2 3)
  have B1 := Lib.hid ((Below.refl w.heap.size w).alloc (Nat.le_refl _) (.cells #[.int .i64 1, .int .i64 1, .int .i64 2, .int .i64 2, .int .i64 3] 23))
  go_enter Try.func16, Try.ntmps16
  go_wp2_with fail
  generalize w.alloc (.cells #[.int .i64 1, .int .i64 1, .int .i64 2, .int .i64 2, .int .i64 3] 23) = w1 at *
  refine (wNew 1 1 2 2 3 w1).mono ?_
  rw [ex_n1.1, ex_n1.2]
  rintro x w2 ⟨rfl, hb⟩
  simp only [quA]
  have HG : Hid (w.heap.size < w2.heap.size) := Nat.lt_of_lt_of_le C1.out.lt hb.size
  have A0 : Hid (Aw w (w2.alloc (.cells #[.int .i64 1, .int .i64 1, .int .i64 2, .int .i64 2, .int .i64 3, .slice none 0 0] 26)) w.heap.size w2.heap.size ⟨1, 1, 2, 2, 3⟩ none 0 0 []) := by
    have hba := (Below.refl w2.heap.size w2).alloc (Nat.le_refl _) (.cells #[.int .i64 1, .int .i64 1, .int .i64 2, .int .i64 2, .int .i64 3, .slice none 0 0] 26)
    have hb2 := B1.out.trans (hb.mono B1.out.size)
    exact ⟨hb2.trans (hba.mono hb2.size), (C1.out.to hb).to hba, QB.new w2 1 1 2 2 3 (.slice none 0 0), OwS.nil _ _ _, Nat.le_refl _, HG.out, rfl⟩
  obtain ⟨x0, x1, x2, x3, x4, x5⟩ := A0.out.q.qx.six
  clear hb
  have y5 : (w2.alloc (.cells #[.int .i64 1, .int .i64 1, .int .i64 2, .int .i64 2, .int .i64 3, .slice none 0 0] 26)).heap.size = w2.heap.size + 1 := by simp
  have M1 := Lib.hid (rd_topMC (w := (w2.alloc (.cells #[.int .i64 1, .int .i64 1, .int .i64 2, .int .i64 2, .int .i64 3, .slice none 0 0] 26))) [97, 98, 99, 100] [.int .u8 97, .int .u8 98, .int .u8 99, .int .u8 100] 5 (4, 5) rfl)
  rw [y5] at M1
  have kc2 := kc (w2.alloc (.cells #[.int .i64 1, .int .i64 1, .int .i64 2, .int .i64 2, .int .i64 3, .slice none 0 0] 26)) #[.int .u8 97, .int .u8 98, .int .u8 99, .int .u8 100] 4 4
  rw [y5] at kc2
  have A1 := Lib.hid (A0.out.to ((Below.refl _ _).alloc (Nat.le_refl _) (.cells #[.int .u8 97, .int .u8 98, .int .u8 99, .int .u8 100] 5 (4, 5))))
  clear y5
  go_wp2_with fail
  clear kc kc2 x0 x1 x2 x3 x4 x5
  generalize ((w2.alloc (.cells #[.int .i64 1, .int .i64 1, .int .i64 2, .int .i64 2, .int .i64 3, .slice none 0 0] 26)).alloc (.cells #[.int .u8 97, .int .u8 98, .int .u8 99, .int .u8 100] 5 (4, 5))) = w3 at *
  refine (wPut 1 1 2 2 3 none (some ⟨w2.heap.size + 1, 0, none⟩) 0 0 4 4 [] [97, 98, 99, 100] w3 (RdS.nil _ _ _) (Nat.le_refl _) (by decide) M1.out).mono ?_
  rintro x w4 hP
  obtain ⟨A4, k4, rfl, hk4, hb⟩ := hP.no ex_long (by decide)
  have A2 := Lib.hid (A1.out.to hb)
  generalize hg2 : w2.heap.size = g2 at *
  clear hP hb A0 A1 M1 B1 C1 hg2 hk4
  have ST : Hid (∀ W : World, W = (w4.alloc (.cells #[.int .i64 0, .int .i64 0, .int .i64 0, .int .i64 0, .int .i64 0, .slice A4 0 k4] 26)).alloc (.cells #[.string ⟨#[97]⟩, .string ⟨#[98]⟩, .string ⟨#[99]⟩] 9) → Aw w W w.heap.size g2 ⟨1, 1, 2, 2, 3⟩ none 0 0 [] ∧ W.heap[w4.heap.size + 1]? = some (.cells exStrs 9 (0, 0))) := by
    rintro W rfl
    refine ⟨(A2.out.to ((Below.refl _ _).alloc (Nat.le_refl _) _)).to ((Below.refl _ _).alloc (Nat.le_refl _) _), ?_⟩
    have h := heap_alloc_last (w4.alloc (.cells #[.int .i64 0, .int .i64 0, .int .i64 0, .int .i64 0, .int .i64 0, .slice A4 0 k4] 26)) (.cells #[.string ⟨#[97]⟩, .string ⟨#[98]⟩, .string ⟨#[99]⟩] 9)
    rwa [show (w4.alloc (.cells #[.int .i64 0, .int .i64 0, .int .i64 0, .int .i64 0, .int .i64 0, .slice A4 0 k4] 26)).heap.size = w4.heap.size + 1 from by simp] at h
  go_wp2_with fail
  have T := Lib.hid (ST.out _ rfl)
  have HG4 := Lib.hid A2.out.q.lt
  clear ST A2
  generalize ((w4.alloc (.cells #[.int .i64 0, .int .i64 0, .int .i64 0, .int .i64 0, .int .i64 0, .slice A4 0 k4] 26)).alloc (.cells #[.string ⟨#[97]⟩, .string ⟨#[98]⟩, .string ⟨#[99]⟩] 9)) = w5 at *
  go_loopw [3, 7] (fun s3 s7 wr => ∃ (i : Nat) (A : Option Addr) (n k : Nat), i ≤ 3 ∧ s7 = .int .i64 (i : Int) ∧ s3 = .int .i64 0 ∧ Aw w wr w.heap.size g2 ⟨1, 1, 2, 2, 3⟩ A n k (exS i) ∧ wr.heap[w4.heap.size + 1]? = some (.cells exStrs 9 (0, 0))) (fun _ s7 _ => 3 - (intOf s7).toNat)
  case atStart => exact ⟨0, none, 0, 0, by omega, rfl, rfl, T.out.1, T.out.2⟩
  case round =>
    obtain ⟨i, A, n, k, hi, rfl, rfl, ha, hs⟩ := hrel
    clear T
    have T := Lib.hid ha
    have SS := Lib.hid hs
    clear ha hs
    obtain ⟨x0, x1, x2, x3, x4, x5⟩ := T.out.q.qx.six
    have HNN : Hid (n ≤ 2) := by
      show _ ≤ _
      have := exS_lens i (by omega)
      have h2 := T.out.o.1
      rw [List.length_map] at h2
      omega
    by_cases hlt : i < 3
    · have hltI : (i : Int) < 3 := by omega
      have HLT : Hid (i < 3) := hlt
      have hwk : IntKind.i64.wrap ((i : Int) + 1) = (i : Int) + 1 := by have := HLT.out; rw [IntKind.wrap_i64]; omega
      clear hi
      go_wp2_with fail
      obtain ⟨wd, hwd⟩ : ∃ wd, wr.drew = wd := ⟨_, rfl⟩
      clear x0 x1 x2 x3 x4 x5
      refine AnyE.start (m := 10) (S := (fun w' => (w'.cell? ⟨g2, 0, none⟩ = some (.int .i64 1) ∧ w'.cell? ⟨g2, 1, none⟩ = some (.int .i64 1) ∧ w'.cell? ⟨g2, 2, none⟩ = some (.int .i64 2) ∧ w'.cell? ⟨g2, 3, none⟩ = some (.int .i64 2) ∧ w'.cell? ⟨g2, 4, none⟩ = some (.int .i64 3) ∧ w'.cell? ⟨g2, 5, none⟩ = some (.slice A n k)) ∧ w'.cell? ⟨w4.heap.size + 1, i, none⟩ = some (.string (exStr i)))) (by kernel_rfl) (⟨T.out.q.qx.six, exStr_at SS.out HLT.out⟩) (fun hHeld => ?_)
      replace T : Hid (Aw w wd w.heap.size g2 ⟨1, 1, 2, 2, 3⟩ A n k (exS i)) := by rw [← hwd]; exact T.out.to ((Below.refl _ _).drew)
      replace SS : Hid (wd.heap[w4.heap.size + 1]? = some (.cells exStrs 9 (0, 0))) := by rw [← hwd]; exact SS.out
      rw [hwd] at hHeld ⊢
      clear hwd
      have SK : Hid (∀ w', Below wd.heap.size wd w' → (w'.cell? ⟨g2, 0, none⟩ = some (.int .i64 1) ∧ w'.cell? ⟨g2, 1, none⟩ = some (.int .i64 1) ∧ w'.cell? ⟨g2, 2, none⟩ = some (.int .i64 2) ∧ w'.cell? ⟨g2, 3, none⟩ = some (.int .i64 2) ∧ w'.cell? ⟨g2, 4, none⟩ = some (.int .i64 3) ∧ w'.cell? ⟨g2, 5, none⟩ = some (.slice A n k)) ∧ w'.cell? ⟨w4.heap.size + 1, i, none⟩ = some (.string (exStr i))) := fun W hW =>
        ⟨(T.out.q.to hW).qx.six, exStr_at ((hW.block _ (heap_at_lt SS.out)).trans SS.out) HLT.out⟩
      have kc := Lib.run_convert_string_bytes (P := Try.prog) wd 9 27 5 (exStr i) Try.underlying9 Try.underlying27 Try.underlying5
      have HB := Lib.hid (Joins.below_bytesWorld wd.heap.size wd 5 (exStr i) (Nat.le_refl _))
      have RD := Lib.hid (rd_bytesWorld wd 5 (exStr i))
      rw [(exStr_data i HLT.out).1, (exStr_data i HLT.out).2] at RD
      have hsz := (exStr_data i HLT.out).2
      rw [hsz] at kc
      clear hsz
      refine AnyE.take (i := 0) (v := ?_) rfl (by kernel_rfl) (by kernel_rfl) (by kernel_rfl) (by kernel_rfl) (fun _ _ _ h => h) (Or.inl ⟨by rfl, ?_⟩) (by assumption) ?_
      rotate_left 1
      · intro w hSw; (try dsimp only at hSw); go_simp; (try with_reducible rfl)
      simp only [Act.put, List.getElem_toArray, List.getElem_cons_zero, List.getElem_cons_succ, List.setIfInBounds_toArray, List.set_cons_zero, List.set_cons_succ]
      refine AnyE.take (i := 1) (v := ?_) rfl (by kernel_rfl) (by kernel_rfl) (by kernel_rfl) (by kernel_rfl) (fun _ _ _ h => h) (Or.inl ⟨by rfl, ?_⟩) (by assumption) ?_
      rotate_left 1
      · intro w hSw; (try dsimp only at hSw); go_simp; (try with_reducible rfl)
      simp only [Act.put, List.getElem_toArray, List.getElem_cons_zero, List.getElem_cons_succ, List.setIfInBounds_toArray, List.set_cons_zero, List.set_cons_succ]
      refine AnyE.take (i := 2) (v := ?_) rfl (by kernel_rfl) (by kernel_rfl) (by kernel_rfl) (by kernel_rfl) (fun _ _ _ h => h) (Or.inl ⟨by rfl, ?_⟩) (by assumption) ?_
      rotate_left 1
      · intro w hSw; (try dsimp only at hSw); go_simp; (try with_reducible rfl)
      simp only [Act.put, List.getElem_toArray, List.getElem_cons_zero, List.getElem_cons_succ, List.setIfInBounds_toArray, List.set_cons_zero, List.set_cons_succ]
      refine AnyE.take (i := 3) (v := ?_) rfl (by kernel_rfl) (by kernel_rfl) (by kernel_rfl) (by kernel_rfl) (fun _ _ _ h => h) (Or.inl ⟨by rfl, ?_⟩) (by assumption) ?_
      rotate_left 1
      · intro w hSw; (try dsimp only at hSw); go_simp; (try with_reducible rfl)
      simp only [Act.put, List.getElem_toArray, List.getElem_cons_zero, List.getElem_cons_succ, List.setIfInBounds_toArray, List.set_cons_zero, List.set_cons_succ]
      refine AnyE.take (i := 4) (v := ?_) rfl (by kernel_rfl) (by kernel_rfl) (by kernel_rfl) (by kernel_rfl) (fun _ _ _ h => h) (Or.inl ⟨by rfl, ?_⟩) (by assumption) ?_
      rotate_left 1
      · intro w hSw; (try dsimp only at hSw); go_simp; (try with_reducible rfl)
      simp only [Act.put, List.getElem_toArray, List.getElem_cons_zero, List.getElem_cons_succ, List.setIfInBounds_toArray, List.set_cons_zero, List.set_cons_succ]
      refine AnyE.ready (rs := [5]) (by kernel_rfl) (by simp) ?_
      refine ReadyE.cons rfl (fun K hK => ?_) ReadyE.nil
      go_simp
      refine hK.out _ _ (SK.out _ HB.out) (fun hHeld => ?_)
      clear hK K
      clear hHeld kc
      have TB := Lib.hid (T.out.to HB.out)
      have SB : Hid ((Lib.bytesWorld wd 5 (exStr i)).heap[w4.heap.size + 1]? = some (.cells exStrs 9 (0, 0))) := (HB.out.block _ (heap_at_lt SS.out)).trans SS.out
      clear T SS
      generalize Lib.bytesWorld wd 5 (exStr i) = wb at *
      refine AnyE.ready (rs := [6]) (by kernel_rfl) (by simp) ?_
      refine ReadyE.cons rfl (fun K hK => ?_) ReadyE.nil
      go_simp
      refine (wPut 1 1 2 2 3 A _ n k 1 _ (exS i) (exM.getD i []) wb TB.out.o.full TB.out.nk (by have := HNN.out; omega) RD.out).mono ?_
      rintro e6 w6 hP
      obtain ⟨A6, n6, k6, rfl, ho, hk, hk', hb⟩ := hP.get (exS_step i HLT.out).1
      rw [(exS_step i HLT.out).2] at ho
      have O6 := Lib.hid ho
      have B6 := Lib.hid hb
      have K6 := Lib.hid hk
      clear hP ho hk hk' hb
      go_wp2_with fail
      refine hK.out _ _ (SK.out _ (HB.out.trans (B6.out.mono HB.out.size))) (fun hHeld => ?_)
      clear hK K
      clear hHeld
      have T6 := Lib.hid (TB.out.to B6.out)
      have S6 : Hid (w6.heap[w4.heap.size + 1]? = some (.cells exStrs 9 (0, 0))) := (B6.out.block _ (heap_at_lt SB.out)).trans SB.out
      obtain ⟨r0, r1, r2, r3, r4, r5⟩ := T6.out.q.qx.six
      obtain ⟨f0, f1, f2, f3, f4, f5⟩ := T6.out.q.zeros
      have hHeld := SK.out _ (HB.out.trans (B6.out.mono HB.out.size))
      refine AnyE.take (i := 7) (v := ?_) rfl (by kernel_rfl) (by kernel_rfl) (by kernel_rfl) (by kernel_rfl) (fun _ _ _ h => h) (Or.inl ⟨by rfl, ?_⟩) (by assumption) ?_
      rotate_left 1
      · intro w hSw; (try dsimp only at hSw); go_simp; (try with_reducible rfl)
      simp only [Act.put, List.getElem_toArray, List.getElem_cons_zero, List.getElem_cons_succ, List.setIfInBounds_toArray, List.set_cons_zero, List.set_cons_succ]
      refine AnyE.take (i := 8) (v := ?_) rfl (by kernel_rfl) (by kernel_rfl) (by kernel_rfl) (by kernel_rfl) (fun _ _ _ h => h) (Or.inl ⟨by rfl, ?_⟩) (by assumption) ?_
      rotate_left 1
      · intro w hSw; (try dsimp only at hSw); go_simp; (try with_reducible rfl)
      simp only [Act.put, List.getElem_toArray, List.getElem_cons_zero, List.getElem_cons_succ, List.setIfInBounds_toArray, List.set_cons_zero, List.set_cons_succ]
      refine AnyE.takeAny (i := 9) (v := ?_) rfl (by decide) (by kernel_rfl) (by kernel_rfl) (by kernel_rfl) (fun _ _ _ h => h) (Or.inl ⟨by rfl, ?_⟩) (by first | (exact fun _ => by assumption) | (intro h; exact absurd h (by decide))) ?_
      rotate_left 1
      · intro w _; go_simp; (try with_reducible rfl)
      simp only [Act.put, List.getElem_toArray, List.getElem_cons_zero, List.getElem_cons_succ, List.setIfInBounds_toArray, List.set_cons_zero, List.set_cons_succ]
      refine AnyE.ready (rs := [10]) (by kernel_rfl) (by simp) ?_
      refine ReadyE.last rfl (by kernel_rfl) (fun K hK => ?_)
      go_simp
      refine hK.out _ _ trivial (fun _ => ?_)
      clear hK K
      refine AnyE.ready (rs := [11]) (by kernel_rfl) (by simp) ?_
      refine ReadyE.last rfl (by kernel_rfl) (fun K hK => ?_)
      go_simp
      refine hK.out _ _ trivial (fun _ => ?_)
      clear hK K
      refine AnyE.done (by kernel_rfl) ?_ _
      clear hHeld r0 r1 r2 r3 r4 r5 f0 f1 f2 f3 f4 f5
      have T7 := Lib.hid (TB.out.store B6.out O6.out K6.out)
      have S7 : Hid ((setQ w6 g2 ⟨1, 1, 2, 2, 3⟩ (.slice A6 n6 k6)).heap[w4.heap.size + 1]? = some (.cells exStrs 9 (0, 0))) :=
        (((Keep.refl (fun b => b = g2) w6).setQ g2 ⟨1, 1, 2, 2, 3⟩ (.slice A6 n6 k6) rfl).block _ (heap_at_lt S6.out) (fun e => by have := HG4.out; omega)).trans S6.out
      change Exit.then _ _ _ _ (setQ w6 g2 ⟨1, 1, 2, 2, 3⟩ (.slice A6 n6 k6))
      generalize setQ w6 g2 ⟨1, 1, 2, 2, 3⟩ (.slice A6 n6 k6) = w7 at *
      go_wp2_with fail
      go_roundw
      case rel => exact ⟨i + 1, A6, n6, k6, HLT.out, by go_num, rfl, T7.out, S7.out⟩
      case measure => have := HLT.out; simp [intOf]; omega
    · obtain rfl : i = 3 := by omega
      have hltI : ¬ ((3 : Nat) : Int) < 3 := by omega
      clear hi hlt
      go_wp2_with fail
      have T0 : Hid (Aw w wr w.heap.size g2 ⟨1, 1, 2, 2, 3⟩ A n k [[98], [99]]) := T.out
      obtain ⟨A0, hA0⟩ : ∃ A0, A = A0 := ⟨_, rfl⟩
      obtain ⟨n0, hn0⟩ : ∃ n0, n = n0 := ⟨_, rfl⟩
      obtain ⟨k0, hk0⟩ : ∃ k0, k = k0 := ⟨_, rfl⟩
      rw [hA0, hn0, hk0] at T0 ⊢
      clear T SS HNN
      refine (wTake 1 1 2 2 3 A0 n0 k0 [[98], [99]] wr T0.out.o.full T0.out.nk (by have := T0.out.o.1; simp at this; omega)).mono ?_
      rintro x wa hT
      obtain ⟨Am0, nm0, km0, A1, n1, k1, rfl, hm, ho, hk, hk', hb⟩ := hT.get ex_t1
      have U0 := Lib.hid (T0.out.to hb)
      obtain ⟨r0, r1, r2, r3, r4, r5⟩ := U0.out.q.qx.six
      obtain ⟨f0, f1, f2, f3, f4, f5⟩ := U0.out.q.zeros
      have KQ0 := (Keep.refl (fun b => b = g2) wa).setQ g2 ⟨1, 1, 2, 2, 3⟩ (.slice A1 n1 k1) rfl
      have M0 := Lib.hid ((hm.kept KQ0 (hm.off (fun b e => by have := T0.out.q.lt; omega))).mono (show g2 + 1 ≤ _ from T0.out.q.lt))
      have T1 := Lib.hid (T0.out.store hb ho hk)
      clear hT hm ho hk hk' hb KQ0 U0 x0 x1 x2 x3 x4 x5
      go_wp2_with fail
      change Calls Try.prog 17 _ (setQ wa g2 ⟨1, 1, 2, 2, 3⟩ (.slice A1 n1 k1)) _
      clear r0 r1 r2 r3 r4 r5 f0 f1 f2 f3 f4 f5
      generalize setQ wa g2 ⟨1, 1, 2, 2, 3⟩ (.slice A1 n1 k1) = v1 at *
      refine (wTake 1 1 2 2 3 A1 n1 k1 [[99]] v1 T1.out.o.full T1.out.nk (by have := T1.out.o.1; simp at this; omega)).mono ?_
      rintro x wb hT
      obtain ⟨Am1, nm1, km1, A2, n2, k2, rfl, hm, ho, hk, hk', hb⟩ := hT.get ex_t2
      have U1 := Lib.hid (T1.out.to hb)
      obtain ⟨r0, r1, r2, r3, r4, r5⟩ := U1.out.q.qx.six
      obtain ⟨f0, f1, f2, f3, f4, f5⟩ := U1.out.q.zeros
      have KQ1 := (Keep.refl (fun b => b = g2) wb).setQ g2 ⟨1, 1, 2, 2, 3⟩ (.slice A2 n2 k2) rfl
      have M1 := Lib.hid ((hm.kept KQ1 (hm.off (fun b e => by have := T1.out.q.lt; omega))).mono (show g2 + 1 ≤ _ from T1.out.q.lt))
      have MM := (M0.out.to hb)
      replace M0 := Lib.hid (MM.kept KQ1 (MM.off (fun b e => by omega)))
      clear MM
      have T2 := Lib.hid (T1.out.store hb ho hk)
      clear hT hm ho hk hk' hb KQ1 U1
      go_wp2_with fail
      change Calls Try.prog 17 _ (setQ wb g2 ⟨1, 1, 2, 2, 3⟩ (.slice A2 n2 k2)) _
      clear r0 r1 r2 r3 r4 r5 f0 f1 f2 f3 f4 f5
      generalize setQ wb g2 ⟨1, 1, 2, 2, 3⟩ (.slice A2 n2 k2) = v2 at *
      refine (wTake 1 1 2 2 3 A2 n2 k2 [] v2 T2.out.o.full T2.out.nk (by have := T2.out.o.1; simp at this; omega)).mono ?_
      rintro x wc hT
      obtain ⟨Az, kz, Ay, ky, rfl, _, hb⟩ := hT.no ex_t3 (by decide)
      have C2 := Lib.hid (T2.out.to hb).ch
      have BC := Lib.hid (T2.out.to hb).b
      have MA := Lib.hid (M0.out.to hb)
      have MB := Lib.hid (M1.out.to hb)
      have hba := (Below.refl wc.heap.size wc).alloc (Nat.le_refl _) (.cells #[.int .i64 0, .int .i64 0, .int .i64 0, .int .i64 0, .int .i64 0, .slice Ay 0 ky] 26)
      have C3 := C2.out.to hba
      have B3 := BC.out.trans (hba.mono (Nat.le_of_lt C2.out.lt))
      obtain ⟨q0, q1, q2, q3, q4, _⟩ := C3.cx
      have qf := C3.fz 0
      have C4 := C3.set0 9
      obtain ⟨s0, s1, s2, s3, s4, _⟩ := C4.cx
      have B4 := Lib.hid (B3.setCell (p := ⟨w.heap.size, 0, none⟩) (Nat.le_refl _) (.int .i64 9))
      have HLG : Hid (w.heap.size < g2) := T2.out.gg
      have K4 := (Keep.refl (fun b => b = w.heap.size) (wc.alloc (.cells #[.int .i64 0, .int .i64 0, .int .i64 0, .int .i64 0, .int .i64 0, .slice Ay 0 ky] 26))).setCell ⟨w.heap.size, 0, none⟩ (.int .i64 9) rfl
      have MA1 := MA.out.to hba
      have MB1 := MB.out.to hba
      have MA2 := Lib.hid (MA1.kept K4 (MA1.off (fun b e => by have := HLG.out; omega))).1
      have MB2 := Lib.hid (MB1.kept K4 (MB1.off (fun b e => by have := HLG.out; omega))).1
      have C5 := Lib.hid C4
      clear hba C3 C4 B3 K4 MA1 MB1 MA MB M0 M1 C2 BC T0 T1 T2 hT hb
      go_wp2_with fail
      clear q0 q1 q2 q3 q4 qf s0 s1 s2 s3 s4
      generalize (wc.alloc (.cells #[.int .i64 0, .int .i64 0, .int .i64 0, .int .i64 0, .int .i64 0, .slice Ay 0 ky] 26)).setCell ⟨w.heap.size, 0, none⟩ (.int .i64 9) = wd at *
      refine (wNew 9 1 2 2 3 wd).mono ?_
      rw [ex_n9.1, ex_n9.2]
      rintro x we ⟨rfl, hb⟩
      simp only [quA, Ch.zero]
      have hbb := (Below.refl we.heap.size we).alloc (Nat.le_refl _) (.cells #[.int .i64 0, .int .i64 0, .int .i64 0, .int .i64 0, .int .i64 0, .slice none 0 0] 26)
      have B6 := B4.out.trans (hb.mono B4.out.size)
      have B7 := Lib.hid (B6.trans (hbb.mono B6.size))
      have hc1 := ((MA2.out.to hb).to hbb).conv km0 27 5 9 Try.underlying27 Try.underlying5 Try.underlying9
      have hc2 := ((MB2.out.to hb).to hbb).conv km1 27 5 9 Try.underlying27 Try.underlying5 Try.underlying9
      rw [show strOfNums (numsOf (([[98], [99]] : List (List UInt8)).headD [])) = ⟨#[98]⟩ from by decide +kernel] at hc1
      rw [show strOfNums (numsOf (([[99]] : List (List UInt8)).headD [])) = ⟨#[99]⟩ from by decide +kernel] at hc2
      clear hb hbb B6 B4 MA2 MB2 C5
      go_wp2_with fail
      go_ret
      exact ⟨rfl, B7.out⟩
end Go.Proofs.Ytkaobafgecoomaa
