/- Contracts of the document's own reader (citadelref05.Reader): New, Tag, Count, Left, End. -/
import Derived.Test.YtmhknpkiddgcpaaRefRdW
namespace Go.Proofs.Ytmhknpkiddgcpaa
open Go.RowKit
set_option linter.unusedVariables false
set_option linter.unusedSimpArgs false

/-- A reader of bytes. -/
def newRS (bs : List UInt8) : RS := if 65536 < bs.length then ⟨[], 3⟩ else ⟨bs, 0⟩
set_option maxRecDepth 100000 in
set_option maxHeartbeats 1000000 in
theorem rdNew (A : Option Addr) (n c : Nat) (bs : List UInt8) (w : World) (ha : Rd w w.heap.size A n bs) (hn : n ≤ 140737488355328) :
    Calls Try.prog 19 #[.slice A n c] w fun e w' => ∃ g gb, e = .returned (.pointer (some ⟨g, 0, none⟩)) ∧ RefAt w' g gb (newRS bs) ∧ w.heap.size ≤ g ∧ (∀ b, gb = some b → w.heap.size ≤ b ∧ b < w'.heap.size) ∧ Below w.heap.size w w' := by
  have HA := Lib.hid ha
  by_cases h : (65536 : Int) < (n : Int)
  · have HN : Hid (newRS bs = ⟨[], 3⟩) := by
      show _ = _
      rw [newRS, if_pos (by rw [ha.1]; omega)]
    clear ha
    go_enter Try.func19, Try.ntmps19
    go_wp2_with fail
    go_ret
    rw [HN.out]
    exact ⟨w.heap.size, none, rfl, ⟨none, 0, 0, 0, [], heap_alloc_last w _, Rd.nil _ _ _, fun h => absurd h (Nat.lt_irrefl 0), by decide, by decide, by decide, by decide, rfl, by decide⟩, Nat.le_refl _, fun _ h => by simp at h, (Below.refl _ _).alloc (Nat.le_refl _) _⟩
  · have HN : Hid (newRS bs = ⟨bs, 0⟩) := by
      show _ = _
      rw [newRS, if_neg (by rw [ha.1]; omega)]
    clear ha
    go_enter Try.func19, Try.ntmps19
    go_wp2_with fail
    refine (refCopy A n c bs w HA.out hn).mono ?_
    rintro e w1 ⟨A1, n1, c1, rfl, hown1, hb⟩
    obtain rfl : n1 = n := (Rd.of_own hown1).1.symm.trans HA.out.1
    have R := Lib.hid (Rd.of_own hown1)
    obtain ⟨hcp, hcp'⟩ := own_cap hown1
    have HH := Lib.hid (fun h0 => own_head hown1 h0)
    have B := Lib.hid hb
    clear hown1 hb
    go_wp2_with fail
    go_ret
    rw [HN.out]
    refine ⟨w1.heap.size, (if 0 < n1 then A1.map (fun a => a.block) else none), rfl, ⟨A1, n1, c1, 0, bs, heap_alloc_last w1 _, R.out.grow _, fun h0 => ?_, by omega, hcp, hcp', by omega, rfl, Nat.zero_le _⟩, B.out.size, fun b hb => ?_, B.out.alloc B.out.size _⟩
    · obtain ⟨g, rfl, _⟩ := HH.out h0
      obtain ⟨b', o', e', hlt, _⟩ := R.out.2 h0
      injection e' with e'; injection e' with e1 _
      exact ⟨g, 0, rfl, by rw [if_pos h0]; rfl, by omega⟩
    · split at hb
      · rename_i h0
        obtain ⟨g, rfl, hg⟩ := HH.out h0
        obtain ⟨b', o', e', hlt, _⟩ := R.out.2 h0
        injection e' with e'; injection e' with e1 _
        simp only [Option.map_some, Option.some.injEq] at hb
        have hs : (w1.alloc (.cells #[.slice (some ⟨g, 0, none⟩) n1 c1, .int .i64 0, .int .i64 0] 45)).heap.size = w1.heap.size + 1 := by simp
        refine ⟨by omega, ?_⟩
        show b < (w1.alloc (.cells #[.slice (some ⟨g, 0, none⟩) n1 c1, .int .i64 0, .int .i64 0] 45)).heap.size
        omega
      · cases hb

def tagV (s : RS) : List UInt8 := if s.ok 32 then s.rest.take 32 else zeros32
theorem tagV_len (s : RS) : (tagV s).length = 32 := by
  unfold tagV
  split
  · rename_i h
    unfold RS.ok at h
    simp only [Bool.and_eq_true, decide_eq_true_eq] at h
    rw [List.length_take]; omega
  · rfl

def TagR (w : World) (n gt : Nat) (A : Option Addr) (bs tv : List UInt8) (g : Nat) (gb : Option Nat) (s' : RS) (i : Value) (wr : World) : Prop :=
  ∃ k : Nat, k ≤ n ∧ i = .int .i64 (k : Int) ∧ TagAt wr (gt + 1) (fillB tv k) ∧ TagAt wr gt zeros32 ∧ RefAt wr g gb s' ∧ Rd wr wr.heap.size A n bs ∧ Keep (· = g) w wr
theorem tag_kept {R : Nat → Prop} {w w' : World} {g : Nat} {bs : List UInt8} (h : TagAt w g bs) (hk : Keep R w w') (hn : ¬ R g) : TagAt w' g bs := ⟨h.1, (hk.block g (heap_at_lt h.2) hn).trans h.2⟩

set_option maxRecDepth 1000000 in
set_option maxHeartbeats 1000000 in
theorem rdTag (g : Nat) (gb : Option Nat) (s : RS) (w : World) (hr : RefAt w g gb s) (hgb : ∀ b, gb = some b → b < w.heap.size) :
    Calls Try.prog 57 #[.pointer (some ⟨g, 0, none⟩)] w fun e w' => e = .returned (.agg (arrB (tagV s))) ∧ RefAt w' g gb (s.next 32) ∧ Keep (· = g) w w' := by
  have hz := tag_zero
  have HGB := Lib.hid hgb
  have HGL := Lib.hid hr.lt
  have h2 := two_tags w zeros32 rfl
  have T0 := Lib.hid h2.1
  have T1 := Lib.hid h2.2
  have hb2 : Below w.heap.size w ((w.alloc (.cells (arrB zeros32) 29)).alloc (.cells (arrB zeros32) 29)) := ((Below.refl _ _).alloc (Nat.le_refl _) _).alloc (by simp) _
  have HSZ : Hid (((w.alloc (.cells (arrB zeros32) 29)).alloc (.cells (arrB zeros32) 29)).heap.size = w.heap.size + 2) := by (show _ = _); simp
  have R := Lib.hid (hr.below hb2)
  have K0 : Hid (Keep (· = g) w ((w.alloc (.cells (arrB zeros32) 29)).alloc (.cells (arrB zeros32) 29))) := Keep.of_below hb2
  have HV : Hid (∀ n, (s.got 32).length = n → (n = 32 ∧ tagV s = s.got 32) ∨ (n = 0 ∧ tagV s = zeros32)) := fun n hn => by
    have hl := tagV_len s
    unfold RS.got at hn ⊢
    unfold tagV at hl ⊢
    by_cases hok : s.ok 32 = true
    · rw [if_pos hok] at hn hl ⊢
      rw [if_pos hok]
      exact .inl ⟨by omega, rfl⟩
    · rw [if_neg hok] at hn ⊢
      rw [if_neg hok]
      exact .inr ⟨by simpa using hn.symm, rfl⟩
  clear hr hgb h2 hb2
  go_enter Try.func57, Try.ntmps57
  go_wp2_with fail
  clear hz
  generalize ((w.alloc (.cells (arrB zeros32) 29)).alloc (.cells (arrB zeros32) 29)) = w0 at *
  refine (rdNext g gb s 32 w0 R.out (by decide)).mono ?_
  rintro e w1 ⟨A1, n1, c1, rfl, ho, hr1, hk⟩
  have hv := HV.out n1 ho.1.1
  have hn32 : n1 ≤ 32 := by rcases hv with ⟨h, _⟩ | ⟨h, _⟩ <;> omega
  have HVV := Lib.hid hv
  have R1 := Lib.hid hr1
  have O := Lib.hid ho
  have HNG : Hid (w.heap.size ≠ g ∧ w.heap.size + 1 ≠ g) := ⟨by have := HGL.out; omega, by have := HGL.out; omega⟩
  replace T0 := Lib.hid (tag_kept T0.out hk (fun h => HNG.out.1 h))
  replace T1 := Lib.hid (tag_kept T1.out hk (fun h => HNG.out.2 h))
  have K1 := Lib.hid (K0.out.trans hk)
  have HOFF : Hid (0 < n1 → ∀ b o, A1 = some ⟨b, o, none⟩ → b ≠ w.heap.size + 1) := fun h0 b o e h => by
    obtain ⟨b', o', e', hB, _⟩ := ho.2 h0
    rw [e] at e'
    injection e' with e'; injection e' with e1 _
    have := HSZ.out
    omega
  have HLV := Lib.hid (tagV_len s)
  generalize s.got 32 = bs at *
  generalize s.ok 32 = ok at *
  obtain ⟨tv, htv⟩ : ∃ l, tagV s = l := ⟨_, rfl⟩
  rw [htv] at HLV HVV hv
  have HTV := Lib.hid htv
  clear ho hr1 hk HV R K0 htv hv
  go_wp2_with fail
  go_loopw [6] (fun i wr => TagR w n1 w.heap.size A1 bs tv g gb (s.next 32) i wr) (fun i _ => n1 - (intOf i).toNat)
  case atStart => exact ⟨0, Nat.zero_le _, rfl, by rw [fillB_zero, HLV.out]; exact T1.out, T0.out, R1.out, O.out.1, K1.out⟩
  case round =>
    clear T0 T1 R1 K1 O
    obtain ⟨k, hk, rfl, h1, h0, hr, hrd, hkp⟩ := hrel
    have T1 := Lib.hid h1
    have T0 := Lib.hid h0
    have R := Lib.hid hr
    have D := Lib.hid hrd
    have K := Lib.hid hkp
    clear h1 h0 hr hrd hkp
    by_cases hlt : k < n1
    · obtain ⟨b, o, rfl, hbl, hc⟩ := D.out.2 (by omega)
      have hcell := hc k hlt
      obtain ⟨hcl, hfr⟩ := T1.out.cell (j := k) (by omega)
      have HBT : Hid (b ≠ w.heap.size + 1) := HOFF.out (by omega) b o rfl
      have HST := Lib.hid (fillB_set (bs := tv) (m := k) (by rw [HLV.out]; omega))
      have HEQ : Hid (tv = bs) := by
        rcases HVV.out with ⟨_, h⟩ | ⟨h, _⟩
        · exact h
        · omega
      have HN : Hid ((nth bs k : Int) = ((tv.getD k 0).toNat : Int)) := by rw [HEQ.out]; rfl
      clear hc
      go_wp2_with fail
      go_roundw
      case rel =>
        rw [HN.out]
        refine ⟨k + 1, by omega, by go_num, ?_, T0.out.other _ _ (by show w.heap.size ≠ w.heap.size + 1; omega), ?_, ?_, ?_⟩
        · have h := T1.out.set (j := k) (tv.getD k 0)
          rw [HST.out] at h
          exact h
        · refine R.out.kept (R := (· = w.heap.size + 1)) ((Keep.refl _ wr).setCell _ _ rfl) (fun h => HNG.out.2 h.symm) (fun b' hb' h => ?_)
          have := HGB.out b' hb'
          omega
        · exact D.out.kept (R := (· = w.heap.size + 1)) ((Keep.refl _ wr).setCell _ _ rfl) (fun _ b' o' e h => by
            injection e with e; injection e with e1 _
            exact HBT.out (e1.trans h))
        · exact K.out.new ((Keep.refl _ wr).setCell _ _ (by right; show w.heap.size ≤ w.heap.size + 1; omega))
      case measure => simp [intOf]; omega
    · obtain rfl : k = n1 := by omega
      have hfull : fillB tv k = tv := by
        rcases HVV.out with ⟨h, _⟩ | ⟨h, h2⟩
        · rw [h]
          have := fillB_all tv
          rwa [HLV.out] at this
        · rw [h, h2]; rfl
      rw [hfull] at T1
      have S1 := Lib.hid (tag_size HLV.out)
      have E1 : Hid ((arrB zeros32).size = (arrB tv).size) := by
        show _ = _
        rw [arrB_size, arrB_size, HLV.out]; rfl
      clear hfull
      go_wp2_with (first | (refine wpList_load_row rfl 29 _ rfl (w.heap.size + 1) rfl 29 (arrB tv) (0, 0) _ T1.out.2 Try.underlying29 rfl S1.out ?_) | (refine wpList_store_row rfl 29 _ _ rfl w.heap.size (arrB tv) rfl rfl 29 (arrB zeros32) T0.out.2 S1.out E1.out (arrB_one _) ?_))
      (try simp only [Exit.inBlock, Exit.then])
      have KS : Keep (· = w.heap.size) wr (wr.setRow w.heap.size (arrB tv)) := ⟨rfl, rfl, rfl, by rw [setRow_size]; exact Nat.le_refl _, fun k hk hn => setRow_other wr _ k _ (fun h => hn h)⟩
      refine bodyPost_ret (v := .agg (arrB tv)) ?_ rfl ⟨by rw [HTV.out], ?_, K.out.new (KS.more fun k h => .inr (Nat.le_of_eq h.symm))⟩
      · exact results_cell_row rfl _ _ w.heap.size 29 (arrB tv) (0, 0) _ rfl (setRow_heap _ _ _ _ _ _ T0.out.2) Try.underlying29 rfl S1.out
      · refine R.out.kept KS (fun h => HNG.out.1 h.symm) (fun b' hb' h => ?_)
        have := HGB.out b' hb'
        omega

def countS (s : RS) (most : Int) : RS := if (s.next 8).e = 0 ∧ (intV s < 0 ∨ most < intV s ∨ ((s.next 8).rest.length : Int) < intV s) then ⟨(s.next 8).rest, 50⟩ else s.next 8
def countV (s : RS) (most : Int) : Int := if (countS s most).e = 0 then intV s else 0
def leftV (s : RS) : Nat := if s.e = 0 then s.rest.length else 0
def endV (s : RS) : Nat := if s.e = 0 ∧ 0 < s.rest.length then 50 else s.e

set_option maxRecDepth 100000 in
set_option maxHeartbeats 1000000 in
theorem rdLeft (g : Nat) (gb : Option Nat) (s : RS) (w : World) (hr : RefAt w g gb s) :
    Calls Try.prog 21 #[.pointer (some ⟨g, 0, none⟩)] w fun e w' => e = .returned (.int .i64 (leftV s : Int)) ∧ ∃ q, w' = w.drewN q := by
  obtain ⟨A, n, c, k, x0, x1, x2, _, hkn, hn, hl, he50⟩ := hr.cells
  have HV : Hid (leftV s = if s.e = 0 then s.rest.length else 0) := rfl
  rw [hl] at HV
  clear hr hl
  by_cases he : (s.e : Int) = 0
  · rw [he] at x2
    have h1 : Hid ((leftV s : Int) = (n : Int) - (k : Int)) := by (show _ = _); rw [HV.out, if_pos (by omega)]; omega
    go_enter Try.func21, Try.ntmps21
    go_wp2
    go_quiet (fail)
    go_wp2
    go_ret
    exact ⟨by rw [h1.out]; rfl, _, rfl⟩
  · have h1 : Hid (leftV s = 0) := by (show _ = _); rw [HV.out, if_neg (by omega)]
    have hne : ((s.e : Int) == 0) = false := by simp; omega
    go_enter Try.func21, Try.ntmps21
    go_wp2
    go_ret
    exact ⟨by rw [h1.out]; rfl, 0, rfl⟩

set_option maxRecDepth 100000 in
set_option maxHeartbeats 1000000 in
theorem rdEnd (g : Nat) (gb : Option Nat) (s : RS) (w : World) (hr : RefAt w g gb s) :
    Calls Try.prog 24 #[.pointer (some ⟨g, 0, none⟩)] w fun e w' => e = .returned (.int .i64 (endV s : Int)) ∧ ∃ q, w' = w.drewN q := by
  obtain ⟨A, n, c, k, x0, x1, x2, _, hkn, hn, hl, he50⟩ := hr.cells
  have HV : Hid (endV s = if s.e = 0 ∧ 0 < s.rest.length then 50 else s.e) := rfl
  rw [hl] at HV
  clear hr hl
  by_cases he : (s.e : Int) = 0
  · rw [he] at x2
    have HE0 : Hid (s.e = 0) := by (show _ = _); omega
    by_cases h2 : (k : Int) < (n : Int)
    · have h1 : Hid (endV s = 50) := by (show _ = _); rw [HV.out, if_pos ⟨by omega, by omega⟩]
      go_enter Try.func24, Try.ntmps24
      go_wp2
      go_quiet (fail)
      go_wp2
      go_ret
      exact ⟨by rw [h1.out]; rfl, _, rfl⟩
    · have h1 : Hid (endV s = 0) := by (show _ = _); rw [HV.out, if_neg (by omega)]; exact HE0.out
      go_enter Try.func24, Try.ntmps24
      go_wp2
      go_quiet (fail)
      go_wp2
      go_ret
      exact ⟨by rw [h1.out]; rfl, _, rfl⟩
  · have h1 : Hid (endV s = s.e) := by (show _ = _); rw [HV.out, if_neg (by omega)]
    have hne : ((s.e : Int) == 0) = false := by simp; omega
    go_enter Try.func24, Try.ntmps24
    go_wp2
    go_quiet (fail)
    go_wp2
    go_ret
    exact ⟨by rw [h1.out]; rfl, _, rfl⟩

set_option maxRecDepth 100000 in
set_option maxHeartbeats 1000000 in
theorem rdCount (g : Nat) (gb : Option Nat) (s : RS) (most : Int) (w : World) (hr : RefAt w g gb s) (hmo : -9223372036854775808 ≤ most ∧ most ≤ 9223372036854775807) :
    Calls Try.prog 58 #[.pointer (some ⟨g, 0, none⟩), .int .i64 most] w fun e w' => e = .returned (.int .i64 (countV s most)) ∧ RefAt w' g gb (countS s most) ∧ Keep (· = g) w w' := by
  have HS : Hid (countS s most = if (s.next 8).e = 0 ∧ (intV s < 0 ∨ most < intV s ∨ ((s.next 8).rest.length : Int) < intV s) then ⟨(s.next 8).rest, 50⟩ else s.next 8) := rfl
  have HV : Hid (countV s most = if (countS s most).e = 0 then intV s else 0) := rfl
  clear hmo
  go_enter Try.func58, Try.ntmps58
  go_wp2_with fail
  refine (rdInt g gb s w hr).mono ?_
  obtain ⟨x, hx⟩ : ∃ x, intV s = x := ⟨_, rfl⟩
  obtain ⟨s8, hs8⟩ : ∃ x, s.next 8 = x := ⟨_, rfl⟩
  rw [hx] at HS HV ⊢
  rw [hs8] at HS ⊢
  clear hx hs8 hr
  rintro e w1 ⟨rfl, hr1, hk⟩
  have R := Lib.hid hr1
  have K := Lib.hid hk
  obtain ⟨A, n, c, k, x0, x1, x2, y2, hkn, hn, hl, he50⟩ := hr1.cells
  have HL := Lib.hid hl
  clear hr1 hk hl
  by_cases he : (s8.e : Int) = 0
  · rw [he] at x2
    by_cases hbad : x < 0 ∨ most < x ∨ (n : Int) - (k : Int) < x
    · have H1 : Hid (countS s most = ⟨s8.rest, 50⟩) := by
        show _ = _
        rw [HS.out, if_pos ⟨by omega, by rw [HL.out]; omega⟩]
      have H2 : Hid (countV s most = 0) := by
        show _ = _
        rw [HV.out, H1.out]; rfl
      have REST : ∀ q : Nat, RefAt ((w1.drewN q).setCell ⟨g, 2, none⟩ (.int .i64 50)) g gb ⟨s8.rest, 50⟩ ∧ Keep (· = g) w ((w1.drewN q).setCell ⟨g, 2, none⟩ (.int .i64 50)) := fun q => ⟨(R.out.drewN q).put2, (K.out.drewN q).setCell _ _ rfl⟩
      have HREST := Lib.hid REST
      clear REST
      by_cases c0 : x < 0
      · clear hbad
        go_wp2
        go_quiet (fail)
        go_wp2
        go_ret
        rw [H1.out, H2.out]
        exact ⟨rfl, (HREST.out _).1, (HREST.out _).2⟩
      have d0 : decide (x < 0) = false := decide_eq_false c0
      by_cases c1 : most < x
      · have d1 : decide (most < x) = true := decide_eq_true c1
        clear hbad
        go_wp2
        go_quiet (fail)
        go_wp2
        go_ret
        rw [H1.out, H2.out]
        exact ⟨rfl, (HREST.out _).1, (HREST.out _).2⟩
      · have c2 : (n : Int) - (k : Int) < x := by omega
        have d1 : decide (most < x) = false := decide_eq_false c1
        have d2 : decide ((n : Int) - (k : Int) < x) = true := decide_eq_true c2
        clear hbad
        go_wp2
        go_quiet (fail)
        go_wp2
        go_ret
        rw [H1.out, H2.out]
        exact ⟨rfl, (HREST.out _).1, (HREST.out _).2⟩
    · have H1 : Hid (countS s most = s8) := by
        show _ = _
        rw [HS.out, if_neg (fun h => hbad (by have := h.2; rw [HL.out] at this; omega))]
      have H2 : Hid (countV s most = x) := by
        show _ = _
        rw [HV.out, H1.out, if_pos (by omega)]
      have c0 : ¬ x < 0 := fun h => hbad (.inl h)
      have c1 : ¬ most < x := fun h => hbad (.inr (.inl h))
      have c2 : ¬ (n : Int) - (k : Int) < x := fun h => hbad (.inr (.inr h))
      have d0 : decide (x < 0) = false := decide_eq_false c0
      have d1 : decide (most < x) = false := decide_eq_false c1
      have d2 : decide ((n : Int) - (k : Int) < x) = false := decide_eq_false c2
      clear hbad
      go_wp2
      go_quiet (fail)
      go_wp2
      go_ret
      rw [H1.out, H2.out]
      exact ⟨rfl, R.out.drewN _, K.out.drewN _⟩
  · have H1 : Hid (countS s most = s8) := by
      show _ = _
      rw [HS.out, if_neg (fun h => he (by rw [h.1]; rfl))]
    have H2 : Hid (countV s most = 0) := by
      show _ = _
      rw [HV.out, H1.out, if_neg (fun h => he (by rw [h]; rfl))]
    have hne : ((s8.e : Int) == 0) = false := by simp; omega
    go_wp2
    go_quiet (fail)
    go_wp2
    go_ret
    rw [H1.out, H2.out]
    exact ⟨rfl, R.out.drewN _, K.out.drewN _⟩
end Go.Proofs.Ytmhknpkiddgcpaa
