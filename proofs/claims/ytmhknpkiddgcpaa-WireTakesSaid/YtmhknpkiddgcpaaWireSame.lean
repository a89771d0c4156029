/- The laws' own same (citadellaw05): a field taken of the program's reader is the one that the document's takes. -/
import Derived.Test.YtmhknpkiddgcpaaWireI
namespace Go.Proofs.Ytmhknpkiddgcpaa
open Go.RowKit
set_option linter.unusedVariables false
set_option linter.unusedSimpArgs false

/-- Both readers at once. -/
structure Both (w : World) (gp gr : Nat) (F : Nat → Prop) (gb : Option Nat) (s : RS) : Prop where
  p : PrAt w gp F s
  r : RefAt w gr gb s
  nr : ¬ F gr
  nb : ∀ b, gb = some b → ¬ F b
  bl : ∀ b, gb = some b → b < w.heap.size
/-- What a step with both leaves, within new memory (from B on). -/
def BothTo (w : World) (gp gr : Nat) (F : Nat → Prop) (gb : Option Nat) (w' : World) : Prop :=
  ∃ F' s', Both w' gp gr F' gb s' ∧ (∀ k, F' k → F k ∨ w.heap.size ≤ k) ∧ Keep (fun k => F k ∨ k = gr) w w'
theorem Both.below {w w' : World} {gp gr : Nat} {F : Nat → Prop} {gb : Option Nat} {s : RS} (h : Both w gp gr F gb s) (hb : Below w.heap.size w w') : Both w' gp gr F gb s :=
  ⟨h.p.kept (R := fun _ => False) (Keep.of_below hb) (fun _ _ h => h), h.r.below hb, h.nr, h.nb, fun b e => Nat.lt_of_lt_of_le (h.bl b e) hb.size⟩
/-- The program's reader went on. -/
theorem Both.stepP {w w' : World} {gp gr : Nat} {F F' : Nat → Prop} {gb : Option Nat} {s s' : RS} (h : Both w gp gr F gb s) (hp : PrAt w' gp F' s') (hs : ∀ k, F' k → F k ∨ w.heap.size ≤ k) (hk : Keep F w w') :
    PrAt w' gp F' s' ∧ RefAt w' gr gb s ∧ ¬ F' gr ∧ (∀ b, gb = some b → ¬ F' b) ∧ (∀ b, gb = some b → b < w'.heap.size) := by
  refine ⟨hp, h.r.kept hk h.nr h.nb, fun hf => ?_, fun b e hf => ?_, fun b e => Nat.lt_of_lt_of_le (h.bl b e) hk.size⟩
  · rcases hs _ hf with h1 | h1
    · exact h.nr h1
    · have := h.r.lt; omega
  · rcases hs _ hf with h1 | h1
    · exact h.nb b e h1
    · have := h.bl b e; omega
/-- Then the document's. -/
theorem both_to {w w1 w2 : World} {gp gr : Nat} {F F' : Nat → Prop} {gb : Option Nat} {s' : RS} (hp : PrAt w1 gp F' s') (hnr : ¬ F' gr) (hnb : ∀ b, gb = some b → ¬ F' b) (hbl : ∀ b, gb = some b → b < w1.heap.size)
    (hs : ∀ k, F' k → F k ∨ w.heap.size ≤ k) (hk : Keep F w w1) (hr : RefAt w2 gr gb s') (hk2 : Keep (· = gr) w1 w2) : BothTo w gp gr F gb w2 :=
  ⟨F', s', ⟨hp.kept hk2 (fun k hf h => hnr (h ▸ hf)), hr, hnr, hnb, fun b e => Nat.lt_of_lt_of_le (hbl b e) hk2.size⟩, hs, (hk.more fun _ h => .inl h).trans (hk2.more fun _ h => .inr h)⟩
theorem BothTo.after {w0 w w' : World} {gp gr : Nat} {F : Nat → Prop} {gb : Option Nat} (hb : Below w0.heap.size w0 w) (h : BothTo w gp gr F gb w') : BothTo w0 gp gr F gb w' := by
  obtain ⟨F', s', h1, h2, h3⟩ := h
  exact ⟨F', s', h1, fun k hf => (h2 k hf).imp id (Nat.le_trans hb.size), (Keep.of_below hb).trans h3⟩
theorem BothTo.more {w w1 w2 : World} {gp gr : Nat} {F : Nat → Prop} {gb : Option Nat} (h : BothTo w gp gr F gb w1) (hb : Below w1.heap.size w1 w2) : BothTo w gp gr F gb w2 := by
  obtain ⟨F', s', h1, h2, h3⟩ := h
  exact ⟨F', s', h1.below hb, h2, h3.trans (Keep.of_below hb)⟩

def IncS (B n : Nat) (A : Option Addr) (gp gr : Nat) (F : Nat → Prop) (gb : Option Nat) (s : RS) (w : World) (i : Value) (wr : World) : Prop :=
  ∃ (k : Nat) (bs : List UInt8), k ≤ n ∧ i = .int .i64 (k : Int) ∧ OwR wr B A n bs ∧ PrAt wr gp F s ∧ RefAt wr gr gb s ∧ Keep (fun k => k = gr ∨ B ≤ k) w wr

set_option maxRecDepth 1000000 in
set_option maxHeartbeats 4000000 in
theorem rSame (gp gr : Nat) (F : Nat → Prop) (gb : Option Nat) (s : RS) (f : Fld) (A : Option Addr) (m c : Nat) (w : World) (h : Both w gp gr F gb s) (hf : FldOk w w.heap.size f A m c) :
    Calls Try.prog 25 #[.pointer (some ⟨gp, 0, none⟩), .pointer (some ⟨gr, 0, none⟩), .agg (fldL f A m c).toArray] w fun e w' => e = .returned (.bool true) ∧ BothTo w gp gr F gb w' := by
  have F0 := FldAt.new w f A m c 31
  have B : Hid (Below w.heap.size w (w.alloc (.cells (fldL f A m c).toArray 31))) := (Below.refl _ _).alloc (Nat.le_refl _) _
  have HB := Lib.hid (h.below B.out)
  have HNN := Lib.hid hf.nn
  have HFL := Lib.hid h.p.lt
  have HF0 := Lib.hid F0
  obtain ⟨h0, h1, h2, h3, h4, h5, _⟩ := F0
  clear hf h
  go_enter Try.func25, Try.ntmps25
  generalize hwh : f.what = wh at *
  clear hwh h1 h3 h4 h5
  by_cases c0 : wh = 0
  · subst c0
    go_wp2_with fail
    clear h0 h2
    generalize w.alloc (.cells (fldL f A m c).toArray 31) = w0 at *
    refine (pByte gp F s w0 HB.out.p).mono ?_
    rintro e w1 ⟨rfl, F', hp, hs, hk⟩
    obtain ⟨h1, h2, h3, h4, h5⟩ := HB.out.stepP hp hs hk
    have R1 := Lib.hid h2
    have K := Lib.hid hk
    have BT := Lib.hid (fun (w2 : World) (s' : RS) (hs' : s' = s.next 1) (hr : RefAt w2 gr gb s') (hk2 : Keep (· = gr) w1 w2) => BothTo.after B.out (both_to (s' := s') (hs' ▸ h1) h3 h4 h5 hs hk hr hk2))
    clear h1 h2 h3 h4 h5 hp hs hk
    go_wp2_with fail
    refine (rdByte gr gb s w1 R1.out).mono ?_
    rintro e w2 ⟨rfl, hr, hk⟩
    have H := Lib.hid (BT.out w2 _ rfl hr hk)
    clear hr hk
    go_wp2_with fail
    go_ret
    exact ⟨rfl, H.out⟩
  by_cases c1 : wh = 1
  · subst c1
    go_wp2_with fail
    clear h0 h2
    generalize w.alloc (.cells (fldL f A m c).toArray 31) = w0 at *
    refine (pInt gp F s w0 HB.out.p).mono ?_
    rintro e w1 ⟨rfl, F', hp, hs, hk⟩
    obtain ⟨h1, h2, h3, h4, h5⟩ := HB.out.stepP hp hs hk
    have R1 := Lib.hid h2
    have BT := Lib.hid (fun (w2 : World) (s' : RS) (hs' : s' = s.next 8) (hr : RefAt w2 gr gb s') (hk2 : Keep (· = gr) w1 w2) => BothTo.after B.out (both_to (s' := s') (hs' ▸ h1) h3 h4 h5 hs hk hr hk2))
    clear h1 h2 h3 h4 h5 hp hs hk
    go_wp2_with fail
    refine (rdInt gr gb s w1 R1.out).mono ?_
    rintro e w2 ⟨rfl, hr, hk⟩
    have H := Lib.hid (BT.out w2 _ rfl hr hk)
    clear hr hk
    go_wp2_with fail
    go_ret
    exact ⟨rfl, H.out⟩
  by_cases c2 : wh = 2
  · subst c2
    go_wp2_with fail
    clear h0 h2
    generalize w.alloc (.cells (fldL f A m c).toArray 31) = w0 at *
    refine (pFlag gp F s w0 HB.out.p).mono ?_
    rintro e w1 ⟨rfl, F', hp, hs, hk⟩
    obtain ⟨h1, h2, h3, h4, h5⟩ := HB.out.stepP hp hs hk
    have R1 := Lib.hid h2
    have BT := Lib.hid (fun (w2 : World) (s' : RS) (hs' : s' = flagS s) (hr : RefAt w2 gr gb s') (hk2 : Keep (· = gr) w1 w2) => BothTo.after B.out (both_to (s' := s') (hs' ▸ h1) h3 h4 h5 hs hk hr hk2))
    clear h1 h2 h3 h4 h5 hp hs hk
    go_wp2_with fail
    refine (rdFlag gr gb s w1 R1.out).mono ?_
    rintro e w2 ⟨rfl, hr, hk⟩
    have H := Lib.hid (BT.out w2 _ rfl hr hk)
    clear hr hk
    go_wp2_with fail
    go_ret
    exact ⟨rfl, H.out⟩
  by_cases c3 : wh = 3
  · subst c3
    go_wp2_with fail
    clear h0 h2
    generalize w.alloc (.cells (fldL f A m c).toArray 31) = w0 at *
    refine (pBytes gp F s w0 HB.out.p).mono ?_
    rintro e w1 ⟨A1, n1, k1, F', rfl, ho, hc1, hc2, hp, hoff, hs, hk⟩
    obtain ⟨h1, h2, h3, h4, h5⟩ := HB.out.stepP hp hs hk
    have R1 := Lib.hid h2
    have O := Lib.hid ho
    have HOF := Lib.hid hoff
    have HGL := Lib.hid (⟨HB.out.r.lt, HB.out.bl⟩ : gr < w0.heap.size ∧ ∀ b, gb = some b → b < w0.heap.size)
    have BT := Lib.hid (fun (w2 : World) (s' : RS) (hs' : s' = bytesS s) (hp : PrAt w2 gp F' s') (hr : RefAt w2 gr gb s') (hk2 : Keep (fun k => k = gr ∨ w0.heap.size ≤ k) w1 w2) => (⟨F', s', ⟨hp, hr, h3, h4, fun b e => Nat.lt_of_lt_of_le (h5 b e) hk2.size⟩, fun k hf => (hs k hf).imp id (Nat.le_trans B.out.size), (Keep.of_below B.out).trans ((hk.more fun _ h => .inl h).new (hk2.more fun k h => h.imp .inr id))⟩ : BothTo w gp gr F gb w2))
    have PP := Lib.hid (fun (w2 : World) (hk2 : Keep (· = gr) w1 w2) => (⟨hp.kept hk2 (fun k hf h => h3 (h ▸ hf)), ho.kept hk2 (OwR.off ho (fun k h => h ▸ HB.out.r.lt))⟩ : PrAt w2 gp F' (bytesS s) ∧ OwR w2 w0.heap.size A1 n1 (bytesV s)))
    clear h1 h2 h3 h4 h5 hp hs hk ho hoff
    have HVL : Hid (n1 ≤ 65536) := by
      show _ ≤ _
      rw [← O.out.1.1]
      unfold bytesV
      split
      · simp
      · have := RS.got_len (s := s.next 4) (n := s.numb 4); omega
    go_wp2_with fail
    refine (rdBytes gr gb s w1 R1.out).mono ?_
    rintro e w2 ⟨A2, n2, k2, rfl, ho2, hr2, hkk⟩
    obtain ⟨hpp, hoo⟩ := PP.out w2 hkk
    have P2 := Lib.hid hpp
    have O2 := Lib.hid hoo
    have U2 := Lib.hid ho2.1
    have R2 := Lib.hid hr2
    have K2 := Lib.hid (hkk.more (R' := fun k => k = gr ∨ w0.heap.size ≤ k) fun _ h => .inl h)
    obtain rfl : n2 = n1 := ho2.1.1.symm.trans O.out.1.1
    clear hpp hoo ho2 hr2 hkk PP R1
    go_wp2_with fail
    refine (refSameBT A1 A2 n2 n2 k1 k2 _ _ w2 rfl O2.out.1 U2.out (by have := HVL.out; omega) (by have := HVL.out; omega)).mono ?_
    rintro e w3 ⟨rfl, hb⟩
    have P3 := Lib.hid (P2.out.kept (R := fun _ => False) (Keep.of_below hb) (fun _ _ h => h))
    have O3 := Lib.hid (O2.out.to hb)
    have R3 := Lib.hid (R2.out.below hb)
    have K3 := Lib.hid (K2.out.trans (Keep.of_below hb))
    clear hb P2 O2 U2 R2 K2
    have HVL2 := HVL.out
    go_wp2_with fail
    go_loopw [12] (fun i wr => IncS w0.heap.size n2 A1 gp gr F' gb (bytesS s) w1 i wr) (fun i _ => n2 - (intOf i).toNat)
    case atStart => exact ⟨0, _, Nat.zero_le _, rfl, O3.out, P3.out, R3.out, K3.out⟩
    case round =>
      clear O3 P3 R3 K3
      obtain ⟨j, ys, hj, rfl, ho, hp, hr, hk⟩ := hrel
      have O := Lib.hid ho
      have P := Lib.hid hp
      have R := Lib.hid hr
      have K := Lib.hid hk
      have HJ := Lib.hid hj
      clear ho hp hr hk hj
      by_cases hlt : j < n2
      · obtain ⟨b, o, rfl, hbB, hcell, hfr⟩ := O.out.cell hlt
        have HN := Lib.hid (u8_inc (nth ys j))
        have hinc := u8_inc (nth ys j)
        have HBB := Lib.hid hbB
        have HOB := Lib.hid (HOF.out (by omega) b o rfl)
        clear hbB
        go_wp2_with fail
        go_roundw
        case rel =>
          have hks : Keep (· = b) wr (wr.setCell ⟨b, o + j, none⟩ (.int .u8 ((UInt8.ofNat (nth ys j + 1)).toNat : Int))) := (Keep.refl _ wr).setCell _ _ rfl
          refine ⟨j + 1, ys.set j (UInt8.ofNat (nth ys j + 1)), by omega, by go_num, ?_, ?_, ?_, ?_⟩
          · first
            | exact O.out.set hlt _ rfl
            | exact O.out.set hlt _ HN.out
          · exact P.out.kept hks (fun k hf h => HOB.out (h ▸ hf))
          · exact R.out.kept hks (fun h => by have := HGL.out.1; have := HBB.out; omega) (fun b' e h => by have := HGL.out.2 b' e; have := HBB.out; omega)
          · exact K.out.trans (hks.more fun k h => .inr (by have := HBB.out; omega))
        case measure => simp [intOf]; omega
      · obtain rfl : j = n2 := by have := HJ.out; omega
        have H := Lib.hid (BT.out wr _ rfl P.out R.out K.out)
        go_wp2_with fail
        go_ret
        exact ⟨rfl, H.out⟩
  by_cases c4 : wh = 4
  · subst c4
    go_wp2_with fail
    clear h0 h2
    generalize w.alloc (.cells (fldL f A m c).toArray 31) = w0 at *
    refine (pText gp F s w0 HB.out.p).mono ?_
    rintro e w1 ⟨rfl, F', hp, hs, hk⟩
    obtain ⟨h1, h2, h3, h4, h5⟩ := HB.out.stepP hp hs hk
    have R1 := Lib.hid h2
    have BT := Lib.hid (fun (w2 : World) (s' : RS) (hs' : s' = bytesS s) (hr : RefAt w2 gr gb s') (hk2 : Keep (· = gr) w1 w2) => BothTo.after B.out (both_to (s' := s') (hs' ▸ h1) h3 h4 h5 hs hk hr hk2))
    clear h1 h2 h3 h4 h5 hp hs hk
    go_wp2_with fail
    refine (rdBytes gr gb s w1 R1.out).mono ?_
    rintro e w2 ⟨A2, n2, k2, rfl, ho, hr, hk⟩
    have H := Lib.hid (BT.out w2 _ rfl hr hk)
    have hcv := ho.1.bytesIn.convert (by simp [numsOf, ho.1.1]) k2 26 5 9 Try.underlying26 Try.underlying5 Try.underlying9
    rw [strB_nums] at hcv
    clear hr hk ho
    go_wp2_with fail
    go_ret
    exact ⟨rfl, H.out⟩
  by_cases c5 : wh = 5
  · subst c5
    have hz := tag_zero
    go_wp2_with fail
    clear h0 h2
    generalize w.alloc (.cells (fldL f A m c).toArray 31) = w0 at *
    refine (pTag gp F s w0 HB.out.p).mono ?_
    have hcl := tagV_len s
    rintro e w1 ⟨rfl, F', hp, hs, hk⟩
    obtain ⟨h1, h2, h3, h4, h5⟩ := HB.out.stepP hp hs hk
    have R1 := Lib.hid h2
    have HGB := Lib.hid h5
    have BT := Lib.hid (fun (w2 w3 : World) (s' : RS) (hs' : s' = s.next 32) (hb : Below w1.heap.size w1 w2) (hr : RefAt w3 gr gb s') (hk2 : Keep (· = gr) w2 w3) => BothTo.after B.out (both_to (s' := s') (hs' ▸ h1) h3 h4 h5 hs hk hr ((Keep.of_below hb).trans hk2)))
    obtain ⟨t, ht⟩ : ∃ t, tagV s = t := ⟨_, rfl⟩
    rw [ht] at hcl
    have HT := Lib.hid ht
    clear h1 h2 h3 h4 h5 hp hs hk ht
    rw [HT.out]
    have S1 := Lib.hid (tag_size hcl)
    have E1 : Hid ((arrB zeros32).size = (arrB t).size) := by
      show _ = _
      rw [arrB_size, arrB_size, hcl]; rfl
    go_wp2_with (refine wpList_store_row rfl 29 _ _ rfl w1.heap.size (arrB t) rfl rfl 29 (arrB zeros32) (heap_alloc_last w1 _) S1.out E1.out (arrB_one _) ?_; rw [World.setRow_alloc_new])
    have hb1 : Below w1.heap.size w1 (w1.alloc (.cells (arrB t) 29)) := (Below.refl _ _).alloc (Nat.le_refl _) _
    have T1 : Hid (TagAt (w1.alloc (.cells (arrB t) 29)) w1.heap.size t) := ⟨hcl, heap_alloc_last w1 _⟩
    have B1 := Lib.hid hb1
    have HG := Lib.hid R1.out.lt
    replace R1 := Lib.hid (R1.out.below hb1)
    clear hb1 E1 hz
    obtain ⟨g5, hg5⟩ : ∃ g, w1.heap.size = g := ⟨_, rfl⟩
    rw [hg5] at T1 HG ⊢
    have HG5 := Lib.hid hg5
    clear hg5
    generalize w1.alloc (.cells (arrB t) 29) = w2 at *
    have heq : ∀ w', (Op.equalIn 10000 29 (.agg (t.map bval).toArray) (.agg (arrB t))).run Try.prog w' = .ok (decide (t = t)) w' := fun w' => run_eql_arrB (P := Try.prog) Try.underlying29 Try.underlying5 (sizeOf_one (by kernel_rfl)) t t hcl hcl w'
    have hu := Try.underlying29
    have hi : (Try.prog.info? 29).map (·.size) = some (t.map bval).length := by rw [List.length_map, hcl]; exact (zero_of_info tag_info).2
    have hgd : Try.prog.eqGuardType Try.prog.depth 29 = false := by kernel_rfl
    rw [show decide (t = t) = true from decide_eq_true rfl] at heq
    replace R1 : Hid (RefAt w2.drew gr gb s) := R1.out
    replace T1 : Hid (TagAt w2.drew g5 t) := T1.out
    have B2 := Lib.hid B1.out.drew
    generalize hwd : w2.drew = wd at *
    have HWD := Lib.hid hwd
    clear hwd B1
    refine wp_region_held_drew (S := (fun w' => w'.rangeAt g5 0 (t.map bval))) (by kernel_rfl) ((by rw [HWD.out]; exact T1.out.range)) (fun hHeld => ?_)
    rw [HWD.out] at hHeld ⊢
    refine wpAnyH_take (i := 0) (v := .agg (List.toArray (t.map bval))) rfl (by kernel_rfl) (by kernel_rfl) (by kernel_rfl) (fun _ _ _ h => h) (yieldsIf_load_mid (by rfl) 29 _ rfl g5 0 rfl (t.map bval) _ (fun _ h => h) hu rfl hi) (by assumption) ?_
    simp only [Act.put, List.getElem_toArray, List.getElem_cons_zero, List.getElem_cons_succ, List.setIfInBounds_toArray, List.set_cons_zero, List.set_cons_succ]
    refine wpAnyH_take (i := 1) (v := ?_) rfl (by kernel_rfl) (by kernel_rfl) (by kernel_rfl) (fun _ _ _ h => h) (Or.inl ⟨by rfl, ?_⟩) (by assumption) ?_
    rotate_left 1
    · intro w hSw; (try dsimp only at hSw); go_simp; (try with_reducible rfl)
    simp only [Act.put, List.getElem_toArray, List.getElem_cons_zero, List.getElem_cons_succ, List.setIfInBounds_toArray, List.set_cons_zero, List.set_cons_succ]
    refine wpAnyH_ready (rs := [2]) (by kernel_rfl) (by simp) ?_
    refine AllReadyH.cons rfl (fun K hK => ?_) AllReadyH.nil
    go_simp
    refine (rdTag gr gb s wd R1.out (fun b e => Nat.lt_of_lt_of_le (HGB.out b e) B2.out.size)).mono ?_
    rw [HT.out]
    rintro e w3 ⟨rfl, hr, hk⟩
    have H := Lib.hid (BT.out wd w3 _ rfl B2.out hr hk)
    have T3 := Lib.hid (tag_kept T1.out hk (Nat.ne_of_gt HG.out))
    clear hr hk
    go_wp2_with fail
    refine hK.out _ _ (T3.out.range) (fun hHeld => ?_)
    clear hK K
    refine wpAnyH_take (i := 3) (v := ?_) rfl (by kernel_rfl) (by kernel_rfl) (by kernel_rfl) (fun _ _ _ h => h) (Or.inl ⟨by rfl, ?_⟩) (by assumption) ?_
    rotate_left 1
    · intro w hSw; (try dsimp only at hSw); go_simp; (try with_reducible rfl)
    simp only [Act.put, List.getElem_toArray, List.getElem_cons_zero, List.getElem_cons_succ, List.setIfInBounds_toArray, List.set_cons_zero, List.set_cons_succ]
    refine wpAnyH_take (i := 4) (v := ?_) rfl (by kernel_rfl) (by kernel_rfl) (by kernel_rfl) (fun _ _ _ h => h) (Or.inl ⟨by rfl, ?_⟩) (by assumption) ?_
    rotate_left 1
    · intro w hSw; (try dsimp only at hSw); go_simp; (try with_reducible rfl)
    simp only [Act.put, List.getElem_toArray, List.getElem_cons_zero, List.getElem_cons_succ, List.setIfInBounds_toArray, List.set_cons_zero, List.set_cons_succ]
    refine wpAnyH_done (by kernel_rfl) ?_ _
    go_wp2_with fail
    go_ret
    exact ⟨rfl, H.out⟩
  go_wp2_with fail
  clear h0 h2
  refine (pCount gp F s f.n (w.alloc (.cells (fldL f A m c).toArray 31)) HB.out.p HNN.out).mono ?_
  rintro e w1 ⟨rfl, F', hp, hs, hk⟩
  obtain ⟨h1, h2, h3, h4, h5⟩ := HB.out.stepP hp hs hk
  have R1 := Lib.hid h2
  have hcell : w1.cell? ⟨w.heap.size, 2, none⟩ = some (.int .i64 f.n) := by
    have hlt : w.heap.size < (w.alloc (.cells (fldL f A m c).toArray 31)).heap.size := by simp
    refine (hk.cell (a := ⟨w.heap.size, 2, none⟩) hlt (fun hf => absurd (HFL.out _ hf) (Nat.lt_irrefl _))).trans HF0.out.c2
  have BT := Lib.hid (fun (w2 : World) (s' : RS) (hs' : s' = countS s f.n) (hr : RefAt w2 gr gb s') (hk2 : Keep (· = gr) w1 w2) => BothTo.after B.out (both_to (s' := s') (hs' ▸ h1) h3 h4 h5 hs hk hr hk2))
  clear h1 h2 h3 h4 h5 hp hs hk
  go_wp2_with fail
  refine (rdCount gr gb s f.n w1 R1.out HNN.out).mono ?_
  rintro e w2 ⟨rfl, hr, hk⟩
  have H := Lib.hid (BT.out w2 _ rfl hr hk)
  clear hr hk
  go_wp2_with fail
  go_ret
  exact ⟨rfl, H.out⟩
end Go.Proofs.Ytmhknpkiddgcpaa
