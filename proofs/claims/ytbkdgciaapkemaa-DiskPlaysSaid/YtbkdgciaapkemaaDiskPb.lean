/- Layer 6: one act, done to both disks (citadellaw06.one): it returns true, and both are in one state behind it. -/
import Derived.Test.YtbkdgciaapkemaaDiskPa
import Derived.Test.YtbkdgciaapkemaaDiskV
namespace Go.Proofs.Ytbkdgciaapkemaa
open Go.RowKit
set_option linter.unusedVariables false
set_option linter.unusedSimpArgs false

theorem Off.sub {A : Option Addr} {n : Nat} {R R' : Nat → Prop} (h : Off A n R) (hr : ∀ k, R' k → R k) : Off A n R' := fun hn b o e hb => h hn b o e (hr b hb)
/-- The program's disk has done an act, the document's not yet. -/
structure Half (w0 w : World) (d : Nat) (F F' : Nat → Prop) (r : Nat) (G : Nat → Prop) (s s' : DS) : Prop where
  dk : DkAt w d F' s'
  dr : DrAt w r G s
  off : ∀ k, F' k → ¬ G k
  new : ∀ k, F' k → F k ∨ w0.heap.size ≤ k
  keep : Keep F w0 w
theorem Pair.half {w1 w2 : World} {d r : Nat} {F G : Nat → Prop} {s : DS} {x : Int × DS} {e : Ending} (h : Pair w1 d F r G s) (h6 : DkTo w1 d F x e w2) : e = .returned (.int .i64 x.1) ∧ ∃ F', Half w1 w2 d F F' r G s x.2 := by
  obtain ⟨he, F', h1, h2, h3⟩ := h6
  exact ⟨he, F', h1, h.dr.kept h3 (fun k hg hf => h.off k hf hg), fun k hf hg => (h2 k hf).elim (fun h' => h.off k h' hg) (fun h' => by have := h.dr.lt k hg; omega), h2, h3⟩
theorem Half.to {w0 w w' : World} {d r : Nat} {F F' G : Nat → Prop} {s s' : DS} (h : Half w0 w d F F' r G s s') (hb : Below w.heap.size w w') : Half w0 w' d F F' r G s s' := ⟨h.dk.to hb, h.dr.to hb, h.off, h.new, h.keep.trans (Keep.of_below hb)⟩
/-- Both have done it. -/
structure Did2 (w0 w : World) (d : Nat) (F F' : Nat → Prop) (r : Nat) (G G' : Nat → Prop) (s' : DS) : Prop where
  pair : Pair w d F' r G' s'
  newF : ∀ k, F' k → F k ∨ w0.heap.size ≤ k
  newG : ∀ k, G' k → G k ∨ w0.heap.size ≤ k
  keep : Keep (fun k => F k ∨ G k) w0 w
theorem Half.full {w0 w1 w2 : World} {d r : Nat} {F F' G : Nat → Prop} {s : DS} {x : Int × DS} {e : Ending} (h : Half w0 w1 d F F' r G s x.2) (h6 : DrTo w1 r G x e w2) : e = .returned (.int .i64 x.1) ∧ ∃ G', Did2 w0 w2 d F F' r G G' x.2 := by
  obtain ⟨he, G', h1, h2, h3⟩ := h6
  refine ⟨he, G', ⟨h.dk.kept h3 h.off, h1, fun k hf hg => (h2 k hg).elim (h.off k hf) (fun h' => by have := h.dk.lt k hf; omega)⟩, h.new, fun k hg => (h2 k hg).imp id (Nat.le_trans h.keep.size), ?_⟩
  exact (h.keep.more (fun _ h => .inl h)).trans (h3.more (fun _ h => .inr h))
theorem Did2.kept {w0 w w' : World} {d r : Nat} {F F' G G' R : Nat → Prop} {s' : DS} (h : Did2 w0 w d F F' r G G' s') (hk : Keep R w w') (hr : ∀ k, R k → w0.heap.size ≤ k ∧ ¬ F' k ∧ ¬ G' k) : Did2 w0 w' d F F' r G G' s' :=
  ⟨⟨h.pair.dk.kept hk (fun k hf h' => (hr k h').2.1 hf), h.pair.dr.kept hk (fun k hf h' => (hr k h').2.2 hf), h.pair.off⟩, h.newF, h.newG, h.keep.new (hk.more (fun k h' => .inr (hr k h').1))⟩
theorem Did2.to {w0 w w' : World} {d r : Nat} {F F' G G' : Nat → Prop} {s' : DS} (h : Did2 w0 w d F F' r G G' s') (hb : Below w.heap.size w w') : Did2 w0 w' d F F' r G G' s' := h.kept (R := fun _ => False) (Keep.of_below hb) (fun _ h => h.elim)
theorem Did2.after {w w0 w1 : World} {d r : Nat} {F F' G G' : Nat → Prop} {s' : DS} (hb : Below w.heap.size w w0) (h : Did2 w0 w1 d F F' r G G' s') : Did2 w w1 d F F' r G G' s' :=
  ⟨h.pair, fun k hk => (h.newF k hk).imp id (Nat.le_trans hb.size), fun k hk => (h.newG k hk).imp id (Nat.le_trans hb.size), (Keep.of_below hb).trans h.keep⟩
theorem Pair.did {w : World} {d r : Nat} {F G : Nat → Prop} {s : DS} (h : Pair w d F r G s) : Did2 w w d F F r G G s := ⟨h, fun _ h => .inl h, fun _ h => .inl h, Keep.refl _ _⟩
/-- What one act makes of both. -/
def PairTo (w : World) (d : Nat) (F : Nat → Prop) (r : Nat) (G : Nat → Prop) (e : Ending) (w' : World) : Prop :=
  e = .returned (.bool true) ∧ ∃ F' G' s', Did2 w w' d F F' r G G' s'
theorem own_from {w : World} {B : Nat} {T : TypeId} {v : Value} {n : Nat} {xs : List Value} (h : w.ownsRow B T 1 v n xs) {b : Nat} (e : v.ownBlock = some b) : B ≤ b ∧ b < w.heap.size := by
  rcases h.2 with h | ⟨g, cap, cur, e', hg, hr, _⟩
  · rw [h.1] at e; cases e
  · rw [e'] at e
    simp only [Value.ownBlock, Option.some.injEq] at e
    subst e
    exact ⟨hg, heap_at_lt hr⟩
theorem own_keptF {R : Nat → Prop} {w w' : World} {B : Nat} {T : TypeId} {v : Value} {n : Nat} {xs : List Value} (h : w.ownsRow B T 1 v n xs) (hk : Keep R w w') (hr : ∀ k, R k → k < B) : w'.ownsRow B T 1 v n xs :=
  own_kept h hk fun b e hf => by
    have := (own_from h e).1
    have := hr b hf
    omega
theorem sector_len {w w' : World} {B B' : Nat} {A A' : Option Addr} {n m : Nat} {b : List UInt8} (h : Rd w B A n (sectorB b)) (hr : Rd w' B' A' m b) (hm : m ≤ 6000) : n ≤ 6000 := by
  rw [← h.1]
  have := hr.1
  unfold sectorB
  split
  · simp
  · omega
/-- The round that raises each byte of a row of the call's own. -/
def IncK (B n c : Nat) (A : Option Addr) (w : World) (i : Value) (wr : World) : Prop :=
  ∃ (k : Nat) (bs : List UInt8), k ≤ n ∧ i = .int .i64 (k : Int) ∧ wr.ownsRow B 5 1 (.slice A n c) n (bs.map bval) ∧ Keep (fun b => (Value.slice A n c).ownBlock = some b) w wr
theorem IncK.next {B n c k : Nat} {g : Nat} {w wr : World} {bs : List UInt8} (hk : k < n) (hown : wr.ownsRow B 5 1 (.slice (some ⟨g, 0, none⟩) n c) n (bs.map bval)) (hkeep : Keep (fun b => (Value.slice (some ⟨g, 0, none⟩) n c).ownBlock = some b) w wr) {i : Value} (hi : i = .int .i64 ((k + 1 : Nat) : Int)) :
    IncK B n c (some ⟨g, 0, none⟩) w i (wr.setCell ⟨g, k, none⟩ (.int .u8 (IntKind.u8.wrap ((nth bs k : Int) + 1)))) := by
  obtain ⟨g', e, hg⟩ := own_head hown (by omega)
  injection e with e; injection e with e _
  subst e
  obtain ⟨h1, _⟩ := own_set (j := k) hown (Below.refl B wr) _ (u8_inc (nth bs k)) hg
  exact ⟨k + 1, _, hk, hi, h1, hkeep.setCell _ _ rfl⟩

set_option maxRecDepth 1000000 in
set_option maxHeartbeats 1000000 in
theorem lOne (d r : Nat) (F G : Nat → Prop) (s : DS) (x : DAct) (A : Option Addr) (m c : Nat) (w : World) (h : Pair w d F r G s) (hx : ActOk w w.heap.size x A m c) (ho : Off A m (fun k => F k ∨ G k)) (hm : m ≤ 6000) :
    Calls Try.prog 13 #[.pointer (some ⟨d, 0, none⟩), .pointer (some ⟨r, 0, none⟩), .agg (actL x A m c).toArray] w (PairTo w d F r G) := by
  obtain ⟨c0, c1, c2⟩ := act_box w (.int .i64 x.kind) (.int .i64 x.n) (.slice A m c) 34
  have HB : Hid (Below w.heap.size w (w.alloc (.cells #[.int .i64 x.kind, .int .i64 x.n, .slice A m c] 34))) := (Below.refl _ _).alloc (Nat.le_refl _) _
  have H := Lib.hid (h.to HB.out)
  have HLT : Hid (∀ k, F k ∨ G k → k < w.heap.size) := fun k hk => hk.elim (h.dk.lt k) (h.dr.lt k)
  have R := Lib.hid (hx.rd.to HB.out)
  have HO := Lib.hid ho
  have HM : Hid (m ≤ 6000) := hm
  have HNN := Lib.hid hx.nn
  have HMC := Lib.hid hx.mc
  have HCC := Lib.hid hx.cc
  obtain ⟨w0, hw0⟩ : ∃ w0, w.alloc (.cells #[.int .i64 x.kind, .int .i64 x.n, .slice A m c] 34) = w0 := ⟨_, rfl⟩
  have HW0 := Lib.hid hw0
  have HG : Hid (w.heap.size < w0.heap.size) := by show _ < _; rw [← hw0]; simp
  rw [hw0] at c0 c1 c2 HB H R
  clear h hx ho hm hw0
  have HGN : Hid (∀ k, F k ∨ G k → k ≠ w.heap.size) := fun k hk => by have := HLT.out k hk; omega
  obtain ⟨kd, xn, xb⟩ := x
  unfold actL
  simp only at c0 c1 R HNN
  have C1 := Lib.hid c1
  have C2 := Lib.hid c2
  have HOK := Lib.hid H.out.dk.ok
  rcases kinds kd with rfl | rfl | rfl | rfl | rfl | rfl | rfl | rfl | rfl | hkd
  · skip
    go_enter Try.func13, Try.ntmps13
    go_wp2_with fail
    rw [HW0.out]
    clear c0 c1 c2
    refine (lSector A m c xb w0 R.out (by have := HM.out; omega)).mono ?_
    rintro e w4 ⟨A4, n4, c4, rfl, hown, hb⟩
    have O4 := Lib.hid hown
    have RD4 := Lib.hid (Rd.of_own hown)
    have P4 := Lib.hid (H.out.to hb)
    have R4 := Lib.hid (R.out.to hb)
    have OF4 : Hid (Off A4 n4 (fun k => F k ∨ G k)) := own_off hown (fun k hk => hk.elim (H.out.dk.lt k) (H.out.dr.lt k))
    have B4 := Lib.hid hb
    have HG4 : Hid (w.heap.size < w4.heap.size) := Nat.lt_of_lt_of_le HG.out hb.size
    have D1 : Hid (w4.cell? ⟨w.heap.size, 1, none⟩ = some (.int .i64 xn)) := (hb.cell HG.out).trans C1.out
    have D2 : Hid (w4.cell? ⟨w.heap.size, 2, none⟩ = some (.slice A m c)) := (hb.cell HG.out).trans C2.out
    clear hown hb
    have d1 := D1.out
    have d2 := D2.out
    go_wp2_with fail
    clear d1 d2
    refine (dWrite d F s xn A4 n4 c4 (sectorB xb) w4 P4.out.dk RD4.out (OF4.out.sub (fun _ h => .inl h))).mono ?_
    rintro e w5 h6
    obtain ⟨rfl, F5, hh⟩ := P4.out.half h6
    have HH : Hid (Half w4 w5.drew d F F5 r G s (s.write xn (sectorB xb)).2) := ⟨hh.dk.kept (R := fun _ => False) (Keep.refl _ _).drew (fun _ _ h => h), hh.dr.kept (R := fun _ => False) (Keep.refl _ _).drew (fun _ _ h => h), hh.off, hh.new, hh.keep.drew⟩
    have E1 : Hid (w5.drew.cell? ⟨w.heap.size, 1, none⟩ = some (.int .i64 xn)) := (hh.keep.cell (a := ⟨w.heap.size, 1, none⟩) HG4.out (fun hf => HGN.out _ (.inl hf) rfl)).trans D1.out
    have E2 : Hid (w5.drew.cell? ⟨w.heap.size, 2, none⟩ = some (.slice A m c)) := (hh.keep.cell (a := ⟨w.heap.size, 2, none⟩) HG4.out (fun hf => HGN.out _ (.inl hf) rfl)).trans D2.out
    have RA := Lib.hid (R4.out.kept hh.keep (HO.out.sub (fun _ h => .inl h))).drew'
    have RM := Lib.hid (RD4.out.kept hh.keep (OF4.out.sub (fun _ h => .inl h))).drew'
    have OM : Hid (w5.drew.ownsRow w0.heap.size 5 1 (.slice A4 n4 c4) n4 ((sectorB xb).map bval)) := own_keptF O4.out hh.keep.drew (fun k hf => Nat.lt_trans (HLT.out k (.inl hf)) HG.out)
    have HG5 : Hid (w.heap.size < w5.drew.heap.size) := Nat.lt_of_lt_of_le HG4.out hh.keep.size
    clear h6 hh D1 D2 R4 RD4 P4
    generalize hwd : w5.drew = wd at *
    have HWD := Lib.hid hwd
    clear hwd
    go_wp2_with fail
    refine wp_region_held_drew (S := (fun w' => w'.cell? ⟨w.heap.size, 1, none⟩ = some (.int .i64 xn) ∧ w'.cell? ⟨w.heap.size, 2, none⟩ = some (.slice A m c))) (by kernel_rfl) ((by rw [HWD.out]; exact ⟨E1.out, E2.out⟩)) (fun hHeld => ?_)
    rw [HWD.out] at hHeld ⊢
    refine wpAnyH_take (i := 0) (v := ?_) rfl (by kernel_rfl) (by kernel_rfl) (by kernel_rfl) (fun _ _ _ h => h) (Or.inl ⟨by rfl, ?_⟩) (by assumption) ?_
    rotate_left 1
    · intro w hSw; (try dsimp only at hSw); go_simp; (try with_reducible rfl)
    simp only [Act.put, List.getElem_toArray, List.getElem_cons_zero, List.getElem_cons_succ, List.setIfInBounds_toArray, List.set_cons_zero, List.set_cons_succ]
    refine wpAnyH_take (i := 1) (v := ?_) rfl (by kernel_rfl) (by kernel_rfl) (by kernel_rfl) (fun _ _ _ h => h) (Or.inl ⟨by rfl, ?_⟩) (by assumption) ?_
    rotate_left 1
    · intro w hSw; (try dsimp only at hSw); go_simp; (try with_reducible rfl)
    simp only [Act.put, List.getElem_toArray, List.getElem_cons_zero, List.getElem_cons_succ, List.setIfInBounds_toArray, List.set_cons_zero, List.set_cons_succ]
    refine wpAnyH_take (i := 2) (v := ?_) rfl (by kernel_rfl) (by kernel_rfl) (by kernel_rfl) (fun _ _ _ h => h) (Or.inl ⟨by rfl, ?_⟩) (by assumption) ?_
    rotate_left 1
    · intro w hSw; (try dsimp only at hSw); go_simp; (try with_reducible rfl)
    simp only [Act.put, List.getElem_toArray, List.getElem_cons_zero, List.getElem_cons_succ, List.setIfInBounds_toArray, List.set_cons_zero, List.set_cons_succ]
    refine wpAnyH_take (i := 3) (v := ?_) rfl (by kernel_rfl) (by kernel_rfl) (by kernel_rfl) (fun _ _ _ h => h) (Or.inl ⟨by rfl, ?_⟩) (by assumption) ?_
    rotate_left 1
    · intro w hSw; (try dsimp only at hSw); (have x := hSw.1); clear hSw; go_simp; (try with_reducible rfl)
    simp only [Act.put, List.getElem_toArray, List.getElem_cons_zero, List.getElem_cons_succ, List.setIfInBounds_toArray, List.set_cons_zero, List.set_cons_succ]
    refine wpAnyH_take (i := 4) (v := ?_) rfl (by kernel_rfl) (by kernel_rfl) (by kernel_rfl) (fun _ _ _ h => h) (Or.inl ⟨by rfl, ?_⟩) (by assumption) ?_
    rotate_left 1
    · intro w hSw; (try dsimp only at hSw); go_simp; (try with_reducible rfl)
    simp only [Act.put, List.getElem_toArray, List.getElem_cons_zero, List.getElem_cons_succ, List.setIfInBounds_toArray, List.set_cons_zero, List.set_cons_succ]
    refine wpAnyH_take (i := 5) (v := ?_) rfl (by kernel_rfl) (by kernel_rfl) (by kernel_rfl) (fun _ _ _ h => h) (Or.inl ⟨by rfl, ?_⟩) (by assumption) ?_
    rotate_left 1
    · intro w hSw; (try dsimp only at hSw); (have x := hSw.2); clear hSw; go_simp; (try with_reducible rfl)
    simp only [Act.put, List.getElem_toArray, List.getElem_cons_zero, List.getElem_cons_succ, List.setIfInBounds_toArray, List.set_cons_zero, List.set_cons_succ]
    refine wpAnyH_ready (rs := [6]) (by kernel_rfl) (by simp) ?_
    refine AllReadyH.cons rfl (fun K hK => ?_) AllReadyH.nil
    go_simp
    refine (lSector A m c xb wd RA.out (by have := HM.out; omega)).mono ?_
    rintro e w7 ⟨A7, n7, c7, rfl, hown, hb⟩
    have RD7 := Lib.hid (Rd.of_own hown)
    have OF7 : Hid (Off A7 n7 G) := own_off hown HH.out.dr.lt
    have N7 : Hid (n7 ≤ 6000) := sector_len RD7.out R.out HM.out
    have B7 := Lib.hid hb
    have HH7 := Lib.hid (HH.out.to hb)
    replace RA := Lib.hid (RA.out.to hb)
    replace RM := Lib.hid (RM.out.to hb)
    replace OM := Lib.hid (own_below OM.out hb)
    replace E1 : Hid (w7.cell? ⟨w.heap.size, 1, none⟩ = some (.int .i64 xn)) := (hb.cell HG5.out).trans E1.out
    replace E2 : Hid (w7.cell? ⟨w.heap.size, 2, none⟩ = some (.slice A m c)) := (hb.cell HG5.out).trans E2.out
    clear hown hb HH
    have HH := HH7
    clear HH7
    go_wp2_with fail
    refine hK.out _ _ (⟨E1.out, E2.out⟩) (fun hHeld => ?_)
    clear hK K
    have HG7 : Hid (w.heap.size < w7.heap.size) := Nat.lt_of_lt_of_le HG5.out B7.out.size
    have HW := Lib.hid (qWrite r G s xn A7 n7 c7 (sectorB xb) w7 HH.out.dr RD7.out (by have := N7.out; omega) OF7.out)
    refine wpAnyH_ready (rs := [7]) (by kernel_rfl) (by simp) ?_
    refine AllReadyH.cons rfl (fun K hK => ?_) AllReadyH.nil
    go_simp
    refine (HW.out).mono ?_
    rintro e w8 h8
    obtain ⟨rfl, G8, hd⟩ := HH.out.full h8
    obtain ⟨_, _, _, _, hk8⟩ := h8
    have DD := Lib.hid hd
    replace RA := Lib.hid (RA.out.kept hk8 (HO.out.sub (fun _ h => .inr h)))
    replace RM := Lib.hid (RM.out.kept hk8 (OF4.out.sub (fun _ h => .inr h)))
    replace OM := Lib.hid (own_keptF OM.out hk8 (fun k hf => Nat.lt_trans (HLT.out k (.inr hf)) HG.out))
    replace E1 : Hid (w8.cell? ⟨w.heap.size, 1, none⟩ = some (.int .i64 xn)) := (hk8.cell (a := ⟨w.heap.size, 1, none⟩) HG7.out (fun hf => HGN.out _ (.inr hf) rfl)).trans E1.out
    replace E2 : Hid (w8.cell? ⟨w.heap.size, 2, none⟩ = some (.slice A m c)) := (hk8.cell (a := ⟨w.heap.size, 2, none⟩) HG7.out (fun hf => HGN.out _ (.inr hf) rfl)).trans E2.out
    have HG8 : Hid (w.heap.size < w8.heap.size) := Nat.lt_of_lt_of_le HG7.out hk8.size
    clear hd hk8 HW RD7 OF7 B7 HH
    go_wp2_with fail
    refine hK.out _ _ (⟨E1.out, E2.out⟩) (fun hHeld => ?_)
    clear hK K
    refine wpAnyH_take (i := 8) (v := ?_) rfl (by kernel_rfl) (by kernel_rfl) (by kernel_rfl) (fun _ _ _ h => h) (Or.inl ⟨by rfl, ?_⟩) (by assumption) ?_
    rotate_left 1
    · intro w hSw; (try dsimp only at hSw); go_simp; (try with_reducible rfl)
    simp only [Act.put, List.getElem_toArray, List.getElem_cons_zero, List.getElem_cons_succ, List.setIfInBounds_toArray, List.set_cons_zero, List.set_cons_succ]
    refine wpAnyH_take (i := 9) (v := ?_) rfl (by kernel_rfl) (by kernel_rfl) (by kernel_rfl) (fun _ _ _ h => h) (Or.inl ⟨by rfl, ?_⟩) (by assumption) ?_
    rotate_left 1
    · intro w hSw; (try dsimp only at hSw); go_simp; (try with_reducible rfl)
    simp only [Act.put, List.getElem_toArray, List.getElem_cons_zero, List.getElem_cons_succ, List.setIfInBounds_toArray, List.set_cons_zero, List.set_cons_succ]
    refine wpAnyH_take (i := 10) (v := ?_) rfl (by kernel_rfl) (by kernel_rfl) (by kernel_rfl) (fun _ _ _ h => h) (Or.inl ⟨by rfl, ?_⟩) (by assumption) ?_
    rotate_left 1
    · intro w hSw; (try dsimp only at hSw); go_simp; (try with_reducible rfl)
    simp only [Act.put, List.getElem_toArray, List.getElem_cons_zero, List.getElem_cons_succ, List.setIfInBounds_toArray, List.set_cons_zero, List.set_cons_succ]
    refine wpAnyH_take (i := 11) (v := ?_) rfl (by kernel_rfl) (by kernel_rfl) (by kernel_rfl) (fun _ _ _ h => h) (Or.inl ⟨by rfl, ?_⟩) (by assumption) ?_
    rotate_left 1
    · intro w hSw; (try dsimp only at hSw); go_simp; (try with_reducible rfl)
    simp only [Act.put, List.getElem_toArray, List.getElem_cons_zero, List.getElem_cons_succ, List.setIfInBounds_toArray, List.set_cons_zero, List.set_cons_succ]
    refine wpAnyH_take (i := 12) (v := ?_) rfl (by kernel_rfl) (by kernel_rfl) (by kernel_rfl) (fun _ _ _ h => h) (Or.inl ⟨by rfl, ?_⟩) (by assumption) ?_
    rotate_left 1
    · intro w hSw; (try dsimp only at hSw); (have x := hSw.2); clear hSw; go_simp; (try with_reducible rfl)
    simp only [Act.put, List.getElem_toArray, List.getElem_cons_zero, List.getElem_cons_succ, List.setIfInBounds_toArray, List.set_cons_zero, List.set_cons_succ]
    refine wpAnyH_ready (rs := [13]) (by kernel_rfl) (by simp) ?_
    refine AllReadyH.cons rfl (fun K hK => ?_) AllReadyH.nil
    go_simp
    refine (lSector A m c xb w8 RA.out (by have := HM.out; omega)).mono ?_
    rintro e w9 ⟨A9, n9, c9, rfl, hown, hb⟩
    have RD9 := Lib.hid (Rd.of_own hown)
    have N9 : Hid (n9 ≤ 6000) := sector_len RD9.out R.out HM.out
    have DD9 := Lib.hid (DD.out.to hb)
    replace RM := Lib.hid (RM.out.to hb)
    replace OM := Lib.hid (own_below OM.out hb)
    replace E1 : Hid (w9.cell? ⟨w.heap.size, 1, none⟩ = some (.int .i64 xn)) := (hb.cell HG8.out).trans E1.out
    replace E2 : Hid (w9.cell? ⟨w.heap.size, 2, none⟩ = some (.slice A m c)) := (hb.cell HG8.out).trans E2.out
    have HG9 : Hid (w.heap.size < w9.heap.size) := Nat.lt_of_lt_of_le HG8.out hb.size
    clear hown hb DD RA
    have DD := DD9
    clear DD9
    go_wp2_with fail
    refine hK.out _ _ (⟨E1.out, E2.out⟩) (fun hHeld => ?_)
    clear hK K
    have N4 : Hid (n4 ≤ 6000) := sector_len RM.out R.out HM.out
    refine wpAnyH_ready (rs := [14]) (by kernel_rfl) (by simp) ?_
    refine AllReadyH.cons rfl (fun K hK => ?_) AllReadyH.nil
    go_simp
    refine (refSameBT A4 A9 n4 n9 c4 c9 _ _ w9 rfl RM.out RD9.out (by have := N4.out; omega) (by have := N9.out; omega)).mono ?_
    rintro e wz ⟨rfl, hb⟩
    have DDz := Lib.hid (DD.out.to hb)
    replace OM := Lib.hid (own_below OM.out hb)
    replace E1 : Hid (wz.cell? ⟨w.heap.size, 1, none⟩ = some (.int .i64 xn)) := (hb.cell HG9.out).trans E1.out
    replace E2 : Hid (wz.cell? ⟨w.heap.size, 2, none⟩ = some (.slice A m c)) := (hb.cell HG9.out).trans E2.out
    clear hb RM RD9
    go_wp2_with fail
    refine hK.out _ _ (⟨E1.out, E2.out⟩) (fun hHeld => ?_)
    clear hK K
    refine wpAnyH_take (i := 15) (v := ?_) rfl (by kernel_rfl) (by kernel_rfl) (by kernel_rfl) (fun _ _ _ h => h) (Or.inl ⟨by rfl, ?_⟩) (by assumption) ?_
    rotate_left 1
    · intro w hSw; (try dsimp only at hSw); go_simp; (try with_reducible rfl)
    simp only [Act.put, List.getElem_toArray, List.getElem_cons_zero, List.getElem_cons_succ, List.setIfInBounds_toArray, List.set_cons_zero, List.set_cons_succ]
    refine wpAnyH_take (i := 16) (v := ?_) rfl (by kernel_rfl) (by kernel_rfl) (by kernel_rfl) (fun _ _ _ h => h) (Or.inl ⟨by rfl, ?_⟩) (by assumption) ?_
    rotate_left 1
    · intro w hSw; (try dsimp only at hSw); go_simp; (try with_reducible rfl)
    simp only [Act.put, List.getElem_toArray, List.getElem_cons_zero, List.getElem_cons_succ, List.setIfInBounds_toArray, List.set_cons_zero, List.set_cons_succ]
    refine wpAnyH_done (by kernel_rfl) ?_ _
    clear hHeld E1 E2
    go_wp2_with fail
    have HN : Hid (∀ k, (Value.slice A4 n4 c4).ownBlock = some k → w0.heap.size ≤ k ∧ ¬ F5 k ∧ ¬ G8 k) := fun k e => by
      have h1 := (own_from OM.out e).1
      have h2 : k < w4.heap.size := (own_from O4.out e).2
      have hB := B4.out.size
      have hg := HG.out
      refine ⟨h1, fun hf => ?_, fun hf => ?_⟩
      · rcases DDz.out.newF k hf with h | h
        · have := HLT.out k (.inl h); omega
        · omega
      · rcases DDz.out.newG k hf with h | h
        · have := HLT.out k (.inr h); omega
        · omega
    have DZ := Lib.hid (DDz.out.after B4.out)
    clear DDz DD
    go_loopw [10] (fun i wr => IncK w0.heap.size n4 c4 A4 wz i wr) (fun i _ => n4 - (intOf i).toNat)
    case atStart => exact ⟨0, _, Nat.zero_le _, rfl, OM.out, Keep.refl _ _⟩
    case round =>
      obtain ⟨k, cs, hk, rfl, hown, hkeep⟩ := hrel
      have hn4 := N4.out
      by_cases hlt : k < n4
      · obtain ⟨g, rfl, hg⟩ := own_head hown (by omega)
        obtain ⟨hcell, hfr⟩ := own_cell (j := k) hown hlt
        go_wp2_with fail
        go_roundw
        case rel => exact IncK.next hlt hown hkeep (by go_num)
        case measure => simp [intOf]; omega
      · obtain rfl : k = n4 := by omega
        have DY := Lib.hid ((DZ.out.kept hkeep (fun k e => HN.out k e)).after HB.out)
        clear hown hkeep OM DZ hn4
        go_wp2_with fail
        go_ret
        exact ⟨rfl, _, _, _, DY.out⟩
  · skip
    go_enter Try.func13, Try.ntmps13
    go_wp2_with fail
    rw [HW0.out]
    clear c0 c1 c2
    refine (lSector A m c xb w0 R.out (by have := HM.out; omega)).mono ?_
    rintro e w4 ⟨A4, n4, c4, rfl, hown, hb⟩
    have O4 := Lib.hid hown
    have RD4 := Lib.hid (Rd.of_own hown)
    have P4 := Lib.hid (H.out.to hb)
    have R4 := Lib.hid (R.out.to hb)
    have OF4 : Hid (Off A4 n4 (fun k => F k ∨ G k)) := own_off hown (fun k hk => hk.elim (H.out.dk.lt k) (H.out.dr.lt k))
    have B4 := Lib.hid hb
    have HG4 : Hid (w.heap.size < w4.heap.size) := Nat.lt_of_lt_of_le HG.out hb.size
    have D1 : Hid (w4.cell? ⟨w.heap.size, 1, none⟩ = some (.int .i64 xn)) := (hb.cell HG.out).trans C1.out
    have D2 : Hid (w4.cell? ⟨w.heap.size, 2, none⟩ = some (.slice A m c)) := (hb.cell HG.out).trans C2.out
    clear hown hb
    have d1 := D1.out
    have d2 := D2.out
    go_wp2_with fail
    clear d1 d2
    refine (dWrite d F s xn A4 n4 c4 (sectorB xb) w4 P4.out.dk RD4.out (OF4.out.sub (fun _ h => .inl h))).mono ?_
    rintro e w5 h6
    obtain ⟨rfl, F5, hh⟩ := P4.out.half h6
    have HH : Hid (Half w4 w5.drew d F F5 r G s (s.write xn (sectorB xb)).2) := ⟨hh.dk.kept (R := fun _ => False) (Keep.refl _ _).drew (fun _ _ h => h), hh.dr.kept (R := fun _ => False) (Keep.refl _ _).drew (fun _ _ h => h), hh.off, hh.new, hh.keep.drew⟩
    have E1 : Hid (w5.drew.cell? ⟨w.heap.size, 1, none⟩ = some (.int .i64 xn)) := (hh.keep.cell (a := ⟨w.heap.size, 1, none⟩) HG4.out (fun hf => HGN.out _ (.inl hf) rfl)).trans D1.out
    have E2 : Hid (w5.drew.cell? ⟨w.heap.size, 2, none⟩ = some (.slice A m c)) := (hh.keep.cell (a := ⟨w.heap.size, 2, none⟩) HG4.out (fun hf => HGN.out _ (.inl hf) rfl)).trans D2.out
    have RA := Lib.hid (R4.out.kept hh.keep (HO.out.sub (fun _ h => .inl h))).drew'
    have RM := Lib.hid (RD4.out.kept hh.keep (OF4.out.sub (fun _ h => .inl h))).drew'
    have OM : Hid (w5.drew.ownsRow w0.heap.size 5 1 (.slice A4 n4 c4) n4 ((sectorB xb).map bval)) := own_keptF O4.out hh.keep.drew (fun k hf => Nat.lt_trans (HLT.out k (.inl hf)) HG.out)
    have HG5 : Hid (w.heap.size < w5.drew.heap.size) := Nat.lt_of_lt_of_le HG4.out hh.keep.size
    clear h6 hh D1 D2 R4 RD4 P4
    generalize hwd : w5.drew = wd at *
    have HWD := Lib.hid hwd
    clear hwd
    go_wp2_with fail
    refine wp_region_held_drew (S := (fun w' => w'.cell? ⟨w.heap.size, 1, none⟩ = some (.int .i64 xn) ∧ w'.cell? ⟨w.heap.size, 2, none⟩ = some (.slice A m c))) (by kernel_rfl) ((by rw [HWD.out]; exact ⟨E1.out, E2.out⟩)) (fun hHeld => ?_)
    rw [HWD.out] at hHeld ⊢
    refine wpAnyH_take (i := 0) (v := ?_) rfl (by kernel_rfl) (by kernel_rfl) (by kernel_rfl) (fun _ _ _ h => h) (Or.inl ⟨by rfl, ?_⟩) (by assumption) ?_
    rotate_left 1
    · intro w hSw; (try dsimp only at hSw); go_simp; (try with_reducible rfl)
    simp only [Act.put, List.getElem_toArray, List.getElem_cons_zero, List.getElem_cons_succ, List.setIfInBounds_toArray, List.set_cons_zero, List.set_cons_succ]
    refine wpAnyH_take (i := 1) (v := ?_) rfl (by kernel_rfl) (by kernel_rfl) (by kernel_rfl) (fun _ _ _ h => h) (Or.inl ⟨by rfl, ?_⟩) (by assumption) ?_
    rotate_left 1
    · intro w hSw; (try dsimp only at hSw); go_simp; (try with_reducible rfl)
    simp only [Act.put, List.getElem_toArray, List.getElem_cons_zero, List.getElem_cons_succ, List.setIfInBounds_toArray, List.set_cons_zero, List.set_cons_succ]
    refine wpAnyH_take (i := 2) (v := ?_) rfl (by kernel_rfl) (by kernel_rfl) (by kernel_rfl) (fun _ _ _ h => h) (Or.inl ⟨by rfl, ?_⟩) (by assumption) ?_
    rotate_left 1
    · intro w hSw; (try dsimp only at hSw); go_simp; (try with_reducible rfl)
    simp only [Act.put, List.getElem_toArray, List.getElem_cons_zero, List.getElem_cons_succ, List.setIfInBounds_toArray, List.set_cons_zero, List.set_cons_succ]
    refine wpAnyH_take (i := 3) (v := ?_) rfl (by kernel_rfl) (by kernel_rfl) (by kernel_rfl) (fun _ _ _ h => h) (Or.inl ⟨by rfl, ?_⟩) (by assumption) ?_
    rotate_left 1
    · intro w hSw; (try dsimp only at hSw); (have x := hSw.1); clear hSw; go_simp; (try with_reducible rfl)
    simp only [Act.put, List.getElem_toArray, List.getElem_cons_zero, List.getElem_cons_succ, List.setIfInBounds_toArray, List.set_cons_zero, List.set_cons_succ]
    refine wpAnyH_take (i := 4) (v := ?_) rfl (by kernel_rfl) (by kernel_rfl) (by kernel_rfl) (fun _ _ _ h => h) (Or.inl ⟨by rfl, ?_⟩) (by assumption) ?_
    rotate_left 1
    · intro w hSw; (try dsimp only at hSw); go_simp; (try with_reducible rfl)
    simp only [Act.put, List.getElem_toArray, List.getElem_cons_zero, List.getElem_cons_succ, List.setIfInBounds_toArray, List.set_cons_zero, List.set_cons_succ]
    refine wpAnyH_take (i := 5) (v := ?_) rfl (by kernel_rfl) (by kernel_rfl) (by kernel_rfl) (fun _ _ _ h => h) (Or.inl ⟨by rfl, ?_⟩) (by assumption) ?_
    rotate_left 1
    · intro w hSw; (try dsimp only at hSw); (have x := hSw.2); clear hSw; go_simp; (try with_reducible rfl)
    simp only [Act.put, List.getElem_toArray, List.getElem_cons_zero, List.getElem_cons_succ, List.setIfInBounds_toArray, List.set_cons_zero, List.set_cons_succ]
    refine wpAnyH_ready (rs := [6]) (by kernel_rfl) (by simp) ?_
    refine AllReadyH.cons rfl (fun K hK => ?_) AllReadyH.nil
    go_simp
    refine (lSector A m c xb wd RA.out (by have := HM.out; omega)).mono ?_
    rintro e w7 ⟨A7, n7, c7, rfl, hown, hb⟩
    have RD7 := Lib.hid (Rd.of_own hown)
    have OF7 : Hid (Off A7 n7 G) := own_off hown HH.out.dr.lt
    have N7 : Hid (n7 ≤ 6000) := sector_len RD7.out R.out HM.out
    have B7 := Lib.hid hb
    have HH7 := Lib.hid (HH.out.to hb)
    replace RA := Lib.hid (RA.out.to hb)
    replace RM := Lib.hid (RM.out.to hb)
    replace OM := Lib.hid (own_below OM.out hb)
    replace E1 : Hid (w7.cell? ⟨w.heap.size, 1, none⟩ = some (.int .i64 xn)) := (hb.cell HG5.out).trans E1.out
    replace E2 : Hid (w7.cell? ⟨w.heap.size, 2, none⟩ = some (.slice A m c)) := (hb.cell HG5.out).trans E2.out
    clear hown hb HH
    have HH := HH7
    clear HH7
    go_wp2_with fail
    refine hK.out _ _ (⟨E1.out, E2.out⟩) (fun hHeld => ?_)
    clear hK K
    have HG7 : Hid (w.heap.size < w7.heap.size) := Nat.lt_of_lt_of_le HG5.out B7.out.size
    have HW := Lib.hid (qWrite r G s xn A7 n7 c7 (sectorB xb) w7 HH.out.dr RD7.out (by have := N7.out; omega) OF7.out)
    refine wpAnyH_ready (rs := [7]) (by kernel_rfl) (by simp) ?_
    refine AllReadyH.cons rfl (fun K hK => ?_) AllReadyH.nil
    go_simp
    refine (HW.out).mono ?_
    rintro e w8 h8
    obtain ⟨rfl, G8, hd⟩ := HH.out.full h8
    obtain ⟨_, _, _, _, hk8⟩ := h8
    have DD := Lib.hid hd
    replace RA := Lib.hid (RA.out.kept hk8 (HO.out.sub (fun _ h => .inr h)))
    replace RM := Lib.hid (RM.out.kept hk8 (OF4.out.sub (fun _ h => .inr h)))
    replace OM := Lib.hid (own_keptF OM.out hk8 (fun k hf => Nat.lt_trans (HLT.out k (.inr hf)) HG.out))
    replace E1 : Hid (w8.cell? ⟨w.heap.size, 1, none⟩ = some (.int .i64 xn)) := (hk8.cell (a := ⟨w.heap.size, 1, none⟩) HG7.out (fun hf => HGN.out _ (.inr hf) rfl)).trans E1.out
    replace E2 : Hid (w8.cell? ⟨w.heap.size, 2, none⟩ = some (.slice A m c)) := (hk8.cell (a := ⟨w.heap.size, 2, none⟩) HG7.out (fun hf => HGN.out _ (.inr hf) rfl)).trans E2.out
    have HG8 : Hid (w.heap.size < w8.heap.size) := Nat.lt_of_lt_of_le HG7.out hk8.size
    clear hd hk8 HW RD7 OF7 B7 HH
    go_wp2_with fail
    refine hK.out _ _ (⟨E1.out, E2.out⟩) (fun hHeld => ?_)
    clear hK K
    refine wpAnyH_take (i := 8) (v := ?_) rfl (by kernel_rfl) (by kernel_rfl) (by kernel_rfl) (fun _ _ _ h => h) (Or.inl ⟨by rfl, ?_⟩) (by assumption) ?_
    rotate_left 1
    · intro w hSw; (try dsimp only at hSw); go_simp; (try with_reducible rfl)
    simp only [Act.put, List.getElem_toArray, List.getElem_cons_zero, List.getElem_cons_succ, List.setIfInBounds_toArray, List.set_cons_zero, List.set_cons_succ]
    refine wpAnyH_take (i := 9) (v := ?_) rfl (by kernel_rfl) (by kernel_rfl) (by kernel_rfl) (fun _ _ _ h => h) (Or.inl ⟨by rfl, ?_⟩) (by assumption) ?_
    rotate_left 1
    · intro w hSw; (try dsimp only at hSw); go_simp; (try with_reducible rfl)
    simp only [Act.put, List.getElem_toArray, List.getElem_cons_zero, List.getElem_cons_succ, List.setIfInBounds_toArray, List.set_cons_zero, List.set_cons_succ]
    refine wpAnyH_take (i := 10) (v := ?_) rfl (by kernel_rfl) (by kernel_rfl) (by kernel_rfl) (fun _ _ _ h => h) (Or.inl ⟨by rfl, ?_⟩) (by assumption) ?_
    rotate_left 1
    · intro w hSw; (try dsimp only at hSw); go_simp; (try with_reducible rfl)
    simp only [Act.put, List.getElem_toArray, List.getElem_cons_zero, List.getElem_cons_succ, List.setIfInBounds_toArray, List.set_cons_zero, List.set_cons_succ]
    refine wpAnyH_take (i := 11) (v := ?_) rfl (by kernel_rfl) (by kernel_rfl) (by kernel_rfl) (fun _ _ _ h => h) (Or.inl ⟨by rfl, ?_⟩) (by assumption) ?_
    rotate_left 1
    · intro w hSw; (try dsimp only at hSw); go_simp; (try with_reducible rfl)
    simp only [Act.put, List.getElem_toArray, List.getElem_cons_zero, List.getElem_cons_succ, List.setIfInBounds_toArray, List.set_cons_zero, List.set_cons_succ]
    refine wpAnyH_take (i := 12) (v := ?_) rfl (by kernel_rfl) (by kernel_rfl) (by kernel_rfl) (fun _ _ _ h => h) (Or.inl ⟨by rfl, ?_⟩) (by assumption) ?_
    rotate_left 1
    · intro w hSw; (try dsimp only at hSw); (have x := hSw.2); clear hSw; go_simp; (try with_reducible rfl)
    simp only [Act.put, List.getElem_toArray, List.getElem_cons_zero, List.getElem_cons_succ, List.setIfInBounds_toArray, List.set_cons_zero, List.set_cons_succ]
    refine wpAnyH_ready (rs := [13]) (by kernel_rfl) (by simp) ?_
    refine AllReadyH.cons rfl (fun K hK => ?_) AllReadyH.nil
    go_simp
    refine (lSector A m c xb w8 RA.out (by have := HM.out; omega)).mono ?_
    rintro e w9 ⟨A9, n9, c9, rfl, hown, hb⟩
    have RD9 := Lib.hid (Rd.of_own hown)
    have N9 : Hid (n9 ≤ 6000) := sector_len RD9.out R.out HM.out
    have DD9 := Lib.hid (DD.out.to hb)
    replace RM := Lib.hid (RM.out.to hb)
    replace OM := Lib.hid (own_below OM.out hb)
    replace E1 : Hid (w9.cell? ⟨w.heap.size, 1, none⟩ = some (.int .i64 xn)) := (hb.cell HG8.out).trans E1.out
    replace E2 : Hid (w9.cell? ⟨w.heap.size, 2, none⟩ = some (.slice A m c)) := (hb.cell HG8.out).trans E2.out
    have HG9 : Hid (w.heap.size < w9.heap.size) := Nat.lt_of_lt_of_le HG8.out hb.size
    clear hown hb DD RA
    have DD := DD9
    clear DD9
    go_wp2_with fail
    refine hK.out _ _ (⟨E1.out, E2.out⟩) (fun hHeld => ?_)
    clear hK K
    have N4 : Hid (n4 ≤ 6000) := sector_len RM.out R.out HM.out
    refine wpAnyH_ready (rs := [14]) (by kernel_rfl) (by simp) ?_
    refine AllReadyH.cons rfl (fun K hK => ?_) AllReadyH.nil
    go_simp
    refine (refSameBT A4 A9 n4 n9 c4 c9 _ _ w9 rfl RM.out RD9.out (by have := N4.out; omega) (by have := N9.out; omega)).mono ?_
    rintro e wz ⟨rfl, hb⟩
    have DDz := Lib.hid (DD.out.to hb)
    replace OM := Lib.hid (own_below OM.out hb)
    replace E1 : Hid (wz.cell? ⟨w.heap.size, 1, none⟩ = some (.int .i64 xn)) := (hb.cell HG9.out).trans E1.out
    replace E2 : Hid (wz.cell? ⟨w.heap.size, 2, none⟩ = some (.slice A m c)) := (hb.cell HG9.out).trans E2.out
    clear hb RM RD9
    go_wp2_with fail
    refine hK.out _ _ (⟨E1.out, E2.out⟩) (fun hHeld => ?_)
    clear hK K
    refine wpAnyH_take (i := 15) (v := ?_) rfl (by kernel_rfl) (by kernel_rfl) (by kernel_rfl) (fun _ _ _ h => h) (Or.inl ⟨by rfl, ?_⟩) (by assumption) ?_
    rotate_left 1
    · intro w hSw; (try dsimp only at hSw); go_simp; (try with_reducible rfl)
    simp only [Act.put, List.getElem_toArray, List.getElem_cons_zero, List.getElem_cons_succ, List.setIfInBounds_toArray, List.set_cons_zero, List.set_cons_succ]
    refine wpAnyH_take (i := 16) (v := ?_) rfl (by kernel_rfl) (by kernel_rfl) (by kernel_rfl) (fun _ _ _ h => h) (Or.inl ⟨by rfl, ?_⟩) (by assumption) ?_
    rotate_left 1
    · intro w hSw; (try dsimp only at hSw); go_simp; (try with_reducible rfl)
    simp only [Act.put, List.getElem_toArray, List.getElem_cons_zero, List.getElem_cons_succ, List.setIfInBounds_toArray, List.set_cons_zero, List.set_cons_succ]
    refine wpAnyH_done (by kernel_rfl) ?_ _
    clear hHeld E1 E2
    go_wp2_with fail
    have HN : Hid (∀ k, (Value.slice A4 n4 c4).ownBlock = some k → w0.heap.size ≤ k ∧ ¬ F5 k ∧ ¬ G8 k) := fun k e => by
      have h1 := (own_from OM.out e).1
      have h2 : k < w4.heap.size := (own_from O4.out e).2
      have hB := B4.out.size
      have hg := HG.out
      refine ⟨h1, fun hf => ?_, fun hf => ?_⟩
      · rcases DDz.out.newF k hf with h | h
        · have := HLT.out k (.inl h); omega
        · omega
      · rcases DDz.out.newG k hf with h | h
        · have := HLT.out k (.inr h); omega
        · omega
    have DZ := Lib.hid (DDz.out.after B4.out)
    clear DDz DD
    go_loopw [10] (fun i wr => IncK w0.heap.size n4 c4 A4 wz i wr) (fun i _ => n4 - (intOf i).toNat)
    case atStart => exact ⟨0, _, Nat.zero_le _, rfl, OM.out, Keep.refl _ _⟩
    case round =>
      obtain ⟨k, cs, hk, rfl, hown, hkeep⟩ := hrel
      have hn4 := N4.out
      by_cases hlt : k < n4
      · obtain ⟨g, rfl, hg⟩ := own_head hown (by omega)
        obtain ⟨hcell, hfr⟩ := own_cell (j := k) hown hlt
        go_wp2_with fail
        go_roundw
        case rel => exact IncK.next hlt hown hkeep (by go_num)
        case measure => simp [intOf]; omega
      · obtain rfl : k = n4 := by omega
        have DY := Lib.hid ((DZ.out.kept hkeep (fun k e => HN.out k e)).after HB.out)
        clear hown hkeep OM DZ hn4
        go_wp2_with fail
        go_ret
        exact ⟨rfl, _, _, _, DY.out⟩
  · skip
    go_enter Try.func13, Try.ntmps13
    go_wp2_with fail
    rw [HW0.out]
    clear c0 c1 c2
    refine (lSector A m c xb w0 R.out (by have := HM.out; omega)).mono ?_
    rintro e w4 ⟨A4, n4, c4, rfl, hown, hb⟩
    have O4 := Lib.hid hown
    have RD4 := Lib.hid (Rd.of_own hown)
    have P4 := Lib.hid (H.out.to hb)
    have R4 := Lib.hid (R.out.to hb)
    have OF4 : Hid (Off A4 n4 (fun k => F k ∨ G k)) := own_off hown (fun k hk => hk.elim (H.out.dk.lt k) (H.out.dr.lt k))
    have B4 := Lib.hid hb
    have HG4 : Hid (w.heap.size < w4.heap.size) := Nat.lt_of_lt_of_le HG.out hb.size
    have D1 : Hid (w4.cell? ⟨w.heap.size, 1, none⟩ = some (.int .i64 xn)) := (hb.cell HG.out).trans C1.out
    have D2 : Hid (w4.cell? ⟨w.heap.size, 2, none⟩ = some (.slice A m c)) := (hb.cell HG.out).trans C2.out
    clear hown hb
    have d1 := D1.out
    have d2 := D2.out
    go_wp2_with fail
    clear d1 d2
    refine (dWrite d F s xn A4 n4 c4 (sectorB xb) w4 P4.out.dk RD4.out (OF4.out.sub (fun _ h => .inl h))).mono ?_
    rintro e w5 h6
    obtain ⟨rfl, F5, hh⟩ := P4.out.half h6
    have HH : Hid (Half w4 w5.drew d F F5 r G s (s.write xn (sectorB xb)).2) := ⟨hh.dk.kept (R := fun _ => False) (Keep.refl _ _).drew (fun _ _ h => h), hh.dr.kept (R := fun _ => False) (Keep.refl _ _).drew (fun _ _ h => h), hh.off, hh.new, hh.keep.drew⟩
    have E1 : Hid (w5.drew.cell? ⟨w.heap.size, 1, none⟩ = some (.int .i64 xn)) := (hh.keep.cell (a := ⟨w.heap.size, 1, none⟩) HG4.out (fun hf => HGN.out _ (.inl hf) rfl)).trans D1.out
    have E2 : Hid (w5.drew.cell? ⟨w.heap.size, 2, none⟩ = some (.slice A m c)) := (hh.keep.cell (a := ⟨w.heap.size, 2, none⟩) HG4.out (fun hf => HGN.out _ (.inl hf) rfl)).trans D2.out
    have RA := Lib.hid (R4.out.kept hh.keep (HO.out.sub (fun _ h => .inl h))).drew'
    have RM := Lib.hid (RD4.out.kept hh.keep (OF4.out.sub (fun _ h => .inl h))).drew'
    have OM : Hid (w5.drew.ownsRow w0.heap.size 5 1 (.slice A4 n4 c4) n4 ((sectorB xb).map bval)) := own_keptF O4.out hh.keep.drew (fun k hf => Nat.lt_trans (HLT.out k (.inl hf)) HG.out)
    have HG5 : Hid (w.heap.size < w5.drew.heap.size) := Nat.lt_of_lt_of_le HG4.out hh.keep.size
    clear h6 hh D1 D2 R4 RD4 P4
    generalize hwd : w5.drew = wd at *
    have HWD := Lib.hid hwd
    clear hwd
    go_wp2_with fail
    refine wp_region_held_drew (S := (fun w' => w'.cell? ⟨w.heap.size, 1, none⟩ = some (.int .i64 xn) ∧ w'.cell? ⟨w.heap.size, 2, none⟩ = some (.slice A m c))) (by kernel_rfl) ((by rw [HWD.out]; exact ⟨E1.out, E2.out⟩)) (fun hHeld => ?_)
    rw [HWD.out] at hHeld ⊢
    refine wpAnyH_take (i := 0) (v := ?_) rfl (by kernel_rfl) (by kernel_rfl) (by kernel_rfl) (fun _ _ _ h => h) (Or.inl ⟨by rfl, ?_⟩) (by assumption) ?_
    rotate_left 1
    · intro w hSw; (try dsimp only at hSw); go_simp; (try with_reducible rfl)
    simp only [Act.put, List.getElem_toArray, List.getElem_cons_zero, List.getElem_cons_succ, List.setIfInBounds_toArray, List.set_cons_zero, List.set_cons_succ]
    refine wpAnyH_take (i := 1) (v := ?_) rfl (by kernel_rfl) (by kernel_rfl) (by kernel_rfl) (fun _ _ _ h => h) (Or.inl ⟨by rfl, ?_⟩) (by assumption) ?_
    rotate_left 1
    · intro w hSw; (try dsimp only at hSw); go_simp; (try with_reducible rfl)
    simp only [Act.put, List.getElem_toArray, List.getElem_cons_zero, List.getElem_cons_succ, List.setIfInBounds_toArray, List.set_cons_zero, List.set_cons_succ]
    refine wpAnyH_take (i := 2) (v := ?_) rfl (by kernel_rfl) (by kernel_rfl) (by kernel_rfl) (fun _ _ _ h => h) (Or.inl ⟨by rfl, ?_⟩) (by assumption) ?_
    rotate_left 1
    · intro w hSw; (try dsimp only at hSw); go_simp; (try with_reducible rfl)
    simp only [Act.put, List.getElem_toArray, List.getElem_cons_zero, List.getElem_cons_succ, List.setIfInBounds_toArray, List.set_cons_zero, List.set_cons_succ]
    refine wpAnyH_take (i := 3) (v := ?_) rfl (by kernel_rfl) (by kernel_rfl) (by kernel_rfl) (fun _ _ _ h => h) (Or.inl ⟨by rfl, ?_⟩) (by assumption) ?_
    rotate_left 1
    · intro w hSw; (try dsimp only at hSw); (have x := hSw.1); clear hSw; go_simp; (try with_reducible rfl)
    simp only [Act.put, List.getElem_toArray, List.getElem_cons_zero, List.getElem_cons_succ, List.setIfInBounds_toArray, List.set_cons_zero, List.set_cons_succ]
    refine wpAnyH_take (i := 4) (v := ?_) rfl (by kernel_rfl) (by kernel_rfl) (by kernel_rfl) (fun _ _ _ h => h) (Or.inl ⟨by rfl, ?_⟩) (by assumption) ?_
    rotate_left 1
    · intro w hSw; (try dsimp only at hSw); go_simp; (try with_reducible rfl)
    simp only [Act.put, List.getElem_toArray, List.getElem_cons_zero, List.getElem_cons_succ, List.setIfInBounds_toArray, List.set_cons_zero, List.set_cons_succ]
    refine wpAnyH_take (i := 5) (v := ?_) rfl (by kernel_rfl) (by kernel_rfl) (by kernel_rfl) (fun _ _ _ h => h) (Or.inl ⟨by rfl, ?_⟩) (by assumption) ?_
    rotate_left 1
    · intro w hSw; (try dsimp only at hSw); (have x := hSw.2); clear hSw; go_simp; (try with_reducible rfl)
    simp only [Act.put, List.getElem_toArray, List.getElem_cons_zero, List.getElem_cons_succ, List.setIfInBounds_toArray, List.set_cons_zero, List.set_cons_succ]
    refine wpAnyH_ready (rs := [6]) (by kernel_rfl) (by simp) ?_
    refine AllReadyH.cons rfl (fun K hK => ?_) AllReadyH.nil
    go_simp
    refine (lSector A m c xb wd RA.out (by have := HM.out; omega)).mono ?_
    rintro e w7 ⟨A7, n7, c7, rfl, hown, hb⟩
    have RD7 := Lib.hid (Rd.of_own hown)
    have OF7 : Hid (Off A7 n7 G) := own_off hown HH.out.dr.lt
    have N7 : Hid (n7 ≤ 6000) := sector_len RD7.out R.out HM.out
    have B7 := Lib.hid hb
    have HH7 := Lib.hid (HH.out.to hb)
    replace RA := Lib.hid (RA.out.to hb)
    replace RM := Lib.hid (RM.out.to hb)
    replace OM := Lib.hid (own_below OM.out hb)
    replace E1 : Hid (w7.cell? ⟨w.heap.size, 1, none⟩ = some (.int .i64 xn)) := (hb.cell HG5.out).trans E1.out
    replace E2 : Hid (w7.cell? ⟨w.heap.size, 2, none⟩ = some (.slice A m c)) := (hb.cell HG5.out).trans E2.out
    clear hown hb HH
    have HH := HH7
    clear HH7
    go_wp2_with fail
    refine hK.out _ _ (⟨E1.out, E2.out⟩) (fun hHeld => ?_)
    clear hK K
    have HG7 : Hid (w.heap.size < w7.heap.size) := Nat.lt_of_lt_of_le HG5.out B7.out.size
    have HW := Lib.hid (qWrite r G s xn A7 n7 c7 (sectorB xb) w7 HH.out.dr RD7.out (by have := N7.out; omega) OF7.out)
    refine wpAnyH_ready (rs := [7]) (by kernel_rfl) (by simp) ?_
    refine AllReadyH.cons rfl (fun K hK => ?_) AllReadyH.nil
    go_simp
    refine (HW.out).mono ?_
    rintro e w8 h8
    obtain ⟨rfl, G8, hd⟩ := HH.out.full h8
    obtain ⟨_, _, _, _, hk8⟩ := h8
    have DD := Lib.hid hd
    replace RA := Lib.hid (RA.out.kept hk8 (HO.out.sub (fun _ h => .inr h)))
    replace RM := Lib.hid (RM.out.kept hk8 (OF4.out.sub (fun _ h => .inr h)))
    replace OM := Lib.hid (own_keptF OM.out hk8 (fun k hf => Nat.lt_trans (HLT.out k (.inr hf)) HG.out))
    replace E1 : Hid (w8.cell? ⟨w.heap.size, 1, none⟩ = some (.int .i64 xn)) := (hk8.cell (a := ⟨w.heap.size, 1, none⟩) HG7.out (fun hf => HGN.out _ (.inr hf) rfl)).trans E1.out
    replace E2 : Hid (w8.cell? ⟨w.heap.size, 2, none⟩ = some (.slice A m c)) := (hk8.cell (a := ⟨w.heap.size, 2, none⟩) HG7.out (fun hf => HGN.out _ (.inr hf) rfl)).trans E2.out
    have HG8 : Hid (w.heap.size < w8.heap.size) := Nat.lt_of_lt_of_le HG7.out hk8.size
    clear hd hk8 HW RD7 OF7 B7 HH
    go_wp2_with fail
    refine hK.out _ _ (⟨E1.out, E2.out⟩) (fun hHeld => ?_)
    clear hK K
    refine wpAnyH_take (i := 8) (v := ?_) rfl (by kernel_rfl) (by kernel_rfl) (by kernel_rfl) (fun _ _ _ h => h) (Or.inl ⟨by rfl, ?_⟩) (by assumption) ?_
    rotate_left 1
    · intro w hSw; (try dsimp only at hSw); go_simp; (try with_reducible rfl)
    simp only [Act.put, List.getElem_toArray, List.getElem_cons_zero, List.getElem_cons_succ, List.setIfInBounds_toArray, List.set_cons_zero, List.set_cons_succ]
    refine wpAnyH_take (i := 9) (v := ?_) rfl (by kernel_rfl) (by kernel_rfl) (by kernel_rfl) (fun _ _ _ h => h) (Or.inl ⟨by rfl, ?_⟩) (by assumption) ?_
    rotate_left 1
    · intro w hSw; (try dsimp only at hSw); go_simp; (try with_reducible rfl)
    simp only [Act.put, List.getElem_toArray, List.getElem_cons_zero, List.getElem_cons_succ, List.setIfInBounds_toArray, List.set_cons_zero, List.set_cons_succ]
    refine wpAnyH_take (i := 10) (v := ?_) rfl (by kernel_rfl) (by kernel_rfl) (by kernel_rfl) (fun _ _ _ h => h) (Or.inl ⟨by rfl, ?_⟩) (by assumption) ?_
    rotate_left 1
    · intro w hSw; (try dsimp only at hSw); go_simp; (try with_reducible rfl)
    simp only [Act.put, List.getElem_toArray, List.getElem_cons_zero, List.getElem_cons_succ, List.setIfInBounds_toArray, List.set_cons_zero, List.set_cons_succ]
    refine wpAnyH_take (i := 11) (v := ?_) rfl (by kernel_rfl) (by kernel_rfl) (by kernel_rfl) (fun _ _ _ h => h) (Or.inl ⟨by rfl, ?_⟩) (by assumption) ?_
    rotate_left 1
    · intro w hSw; (try dsimp only at hSw); go_simp; (try with_reducible rfl)
    simp only [Act.put, List.getElem_toArray, List.getElem_cons_zero, List.getElem_cons_succ, List.setIfInBounds_toArray, List.set_cons_zero, List.set_cons_succ]
    refine wpAnyH_take (i := 12) (v := ?_) rfl (by kernel_rfl) (by kernel_rfl) (by kernel_rfl) (fun _ _ _ h => h) (Or.inl ⟨by rfl, ?_⟩) (by assumption) ?_
    rotate_left 1
    · intro w hSw; (try dsimp only at hSw); (have x := hSw.2); clear hSw; go_simp; (try with_reducible rfl)
    simp only [Act.put, List.getElem_toArray, List.getElem_cons_zero, List.getElem_cons_succ, List.setIfInBounds_toArray, List.set_cons_zero, List.set_cons_succ]
    refine wpAnyH_ready (rs := [13]) (by kernel_rfl) (by simp) ?_
    refine AllReadyH.cons rfl (fun K hK => ?_) AllReadyH.nil
    go_simp
    refine (lSector A m c xb w8 RA.out (by have := HM.out; omega)).mono ?_
    rintro e w9 ⟨A9, n9, c9, rfl, hown, hb⟩
    have RD9 := Lib.hid (Rd.of_own hown)
    have N9 : Hid (n9 ≤ 6000) := sector_len RD9.out R.out HM.out
    have DD9 := Lib.hid (DD.out.to hb)
    replace RM := Lib.hid (RM.out.to hb)
    replace OM := Lib.hid (own_below OM.out hb)
    replace E1 : Hid (w9.cell? ⟨w.heap.size, 1, none⟩ = some (.int .i64 xn)) := (hb.cell HG8.out).trans E1.out
    replace E2 : Hid (w9.cell? ⟨w.heap.size, 2, none⟩ = some (.slice A m c)) := (hb.cell HG8.out).trans E2.out
    have HG9 : Hid (w.heap.size < w9.heap.size) := Nat.lt_of_lt_of_le HG8.out hb.size
    clear hown hb DD RA
    have DD := DD9
    clear DD9
    go_wp2_with fail
    refine hK.out _ _ (⟨E1.out, E2.out⟩) (fun hHeld => ?_)
    clear hK K
    have N4 : Hid (n4 ≤ 6000) := sector_len RM.out R.out HM.out
    refine wpAnyH_ready (rs := [14]) (by kernel_rfl) (by simp) ?_
    refine AllReadyH.cons rfl (fun K hK => ?_) AllReadyH.nil
    go_simp
    refine (refSameBT A4 A9 n4 n9 c4 c9 _ _ w9 rfl RM.out RD9.out (by have := N4.out; omega) (by have := N9.out; omega)).mono ?_
    rintro e wz ⟨rfl, hb⟩
    have DDz := Lib.hid (DD.out.to hb)
    replace OM := Lib.hid (own_below OM.out hb)
    replace E1 : Hid (wz.cell? ⟨w.heap.size, 1, none⟩ = some (.int .i64 xn)) := (hb.cell HG9.out).trans E1.out
    replace E2 : Hid (wz.cell? ⟨w.heap.size, 2, none⟩ = some (.slice A m c)) := (hb.cell HG9.out).trans E2.out
    clear hb RM RD9
    go_wp2_with fail
    refine hK.out _ _ (⟨E1.out, E2.out⟩) (fun hHeld => ?_)
    clear hK K
    refine wpAnyH_take (i := 15) (v := ?_) rfl (by kernel_rfl) (by kernel_rfl) (by kernel_rfl) (fun _ _ _ h => h) (Or.inl ⟨by rfl, ?_⟩) (by assumption) ?_
    rotate_left 1
    · intro w hSw; (try dsimp only at hSw); go_simp; (try with_reducible rfl)
    simp only [Act.put, List.getElem_toArray, List.getElem_cons_zero, List.getElem_cons_succ, List.setIfInBounds_toArray, List.set_cons_zero, List.set_cons_succ]
    refine wpAnyH_take (i := 16) (v := ?_) rfl (by kernel_rfl) (by kernel_rfl) (by kernel_rfl) (fun _ _ _ h => h) (Or.inl ⟨by rfl, ?_⟩) (by assumption) ?_
    rotate_left 1
    · intro w hSw; (try dsimp only at hSw); go_simp; (try with_reducible rfl)
    simp only [Act.put, List.getElem_toArray, List.getElem_cons_zero, List.getElem_cons_succ, List.setIfInBounds_toArray, List.set_cons_zero, List.set_cons_succ]
    refine wpAnyH_done (by kernel_rfl) ?_ _
    clear hHeld E1 E2
    go_wp2_with fail
    have HN : Hid (∀ k, (Value.slice A4 n4 c4).ownBlock = some k → w0.heap.size ≤ k ∧ ¬ F5 k ∧ ¬ G8 k) := fun k e => by
      have h1 := (own_from OM.out e).1
      have h2 : k < w4.heap.size := (own_from O4.out e).2
      have hB := B4.out.size
      have hg := HG.out
      refine ⟨h1, fun hf => ?_, fun hf => ?_⟩
      · rcases DDz.out.newF k hf with h | h
        · have := HLT.out k (.inl h); omega
        · omega
      · rcases DDz.out.newG k hf with h | h
        · have := HLT.out k (.inr h); omega
        · omega
    have DZ := Lib.hid (DDz.out.after B4.out)
    clear DDz DD
    go_loopw [10] (fun i wr => IncK w0.heap.size n4 c4 A4 wz i wr) (fun i _ => n4 - (intOf i).toNat)
    case atStart => exact ⟨0, _, Nat.zero_le _, rfl, OM.out, Keep.refl _ _⟩
    case round =>
      obtain ⟨k, cs, hk, rfl, hown, hkeep⟩ := hrel
      have hn4 := N4.out
      by_cases hlt : k < n4
      · obtain ⟨g, rfl, hg⟩ := own_head hown (by omega)
        obtain ⟨hcell, hfr⟩ := own_cell (j := k) hown hlt
        go_wp2_with fail
        go_roundw
        case rel => exact IncK.next hlt hown hkeep (by go_num)
        case measure => simp [intOf]; omega
      · obtain rfl : k = n4 := by omega
        have DY := Lib.hid ((DZ.out.kept hkeep (fun k e => HN.out k e)).after HB.out)
        clear hown hkeep OM DZ hn4
        go_wp2_with fail
        go_ret
        exact ⟨rfl, _, _, _, DY.out⟩
  · skip
    go_enter Try.func13, Try.ntmps13
    go_wp2_with fail
    rw [HW0.out]
    clear c0 c1 c2
    refine (dFlush d F s w0 H.out.dk).mono ?_
    rintro e w1 h6
    obtain ⟨rfl, F1, hh⟩ := H.out.half h6
    have HH := Lib.hid hh
    have D1 : Hid (w1.cell? ⟨w.heap.size, 1, none⟩ = some (.int .i64 xn)) := (hh.keep.cell (a := ⟨w.heap.size, 1, none⟩) HG.out (fun hf => HGN.out _ (.inl hf) rfl)).trans C1.out
    have D2 : Hid (w1.cell? ⟨w.heap.size, 2, none⟩ = some (.slice A m c)) := (hh.keep.cell (a := ⟨w.heap.size, 2, none⟩) HG.out (fun hf => HGN.out _ (.inl hf) rfl)).trans C2.out
    have R1 := Lib.hid (R.out.kept hh.keep (HO.out.sub (fun _ h => .inl h)))
    clear h6 hh
    have d1 := D1.out
    have d2 := D2.out
    go_wp2_with fail
    clear d1 d2
    refine (qFlush r G s w1 HH.out.dr).mono ?_
    rintro e w2 h6
    obtain ⟨rfl, G2, hd⟩ := HH.out.full h6
    have DD := Lib.hid hd
    clear h6 hd
    go_wp2_with fail
    go_ret
    exact ⟨rfl, _, _, _, DD.out.after HB.out⟩
  · skip
    go_enter Try.func13, Try.ntmps13
    go_wp2_with fail
    rw [HW0.out]
    clear c0 c1 c2
    refine (dFlush d F s w0 H.out.dk).mono ?_
    rintro e w1 h6
    obtain ⟨rfl, F1, hh⟩ := H.out.half h6
    have HH := Lib.hid hh
    have D1 : Hid (w1.cell? ⟨w.heap.size, 1, none⟩ = some (.int .i64 xn)) := (hh.keep.cell (a := ⟨w.heap.size, 1, none⟩) HG.out (fun hf => HGN.out _ (.inl hf) rfl)).trans C1.out
    have D2 : Hid (w1.cell? ⟨w.heap.size, 2, none⟩ = some (.slice A m c)) := (hh.keep.cell (a := ⟨w.heap.size, 2, none⟩) HG.out (fun hf => HGN.out _ (.inl hf) rfl)).trans C2.out
    have R1 := Lib.hid (R.out.kept hh.keep (HO.out.sub (fun _ h => .inl h)))
    clear h6 hh
    have d1 := D1.out
    have d2 := D2.out
    go_wp2_with fail
    clear d1 d2
    refine (qFlush r G s w1 HH.out.dr).mono ?_
    rintro e w2 h6
    obtain ⟨rfl, G2, hd⟩ := HH.out.full h6
    have DD := Lib.hid hd
    clear h6 hd
    go_wp2_with fail
    go_ret
    exact ⟨rfl, _, _, _, DD.out.after HB.out⟩
  · skip
    go_enter Try.func13, Try.ntmps13
    go_wp2_with fail
    rw [HW0.out]
    clear c0 c1 c2
    refine (dCrash d F s A m c xb w0 H.out.dk R.out HMC.out (by have := HCC.out; omega)).mono ?_
    rintro e w1 h6
    obtain ⟨rfl, F1, hh⟩ := H.out.half h6
    have HH := Lib.hid hh
    have D1 : Hid (w1.cell? ⟨w.heap.size, 1, none⟩ = some (.int .i64 xn)) := (hh.keep.cell (a := ⟨w.heap.size, 1, none⟩) HG.out (fun hf => HGN.out _ (.inl hf) rfl)).trans C1.out
    have D2 : Hid (w1.cell? ⟨w.heap.size, 2, none⟩ = some (.slice A m c)) := (hh.keep.cell (a := ⟨w.heap.size, 2, none⟩) HG.out (fun hf => HGN.out _ (.inl hf) rfl)).trans C2.out
    have R1 := Lib.hid (R.out.kept hh.keep (HO.out.sub (fun _ h => .inl h)))
    clear h6 hh
    have d1 := D1.out
    have d2 := D2.out
    go_wp2_with fail
    clear d1 d2
    refine (qCrash r G s A m c xb w1 HH.out.dr R1.out (HO.out.sub (fun _ h => .inr h))).mono ?_
    rintro e w2 h6
    obtain ⟨rfl, G2, hd⟩ := HH.out.full h6
    have DD := Lib.hid hd
    clear h6 hd
    go_wp2_with fail
    go_ret
    exact ⟨rfl, _, _, _, DD.out.after HB.out⟩
  · skip
    go_enter Try.func13, Try.ntmps13
    go_wp2_with fail
    rw [HW0.out]
    clear c0 c1
    refine (refCopy A m c xb w0 R.out (by have := HM.out; omega)).mono ?_
    rintro e w4 ⟨A4, n4, c4, rfl, hown, hb⟩
    have O4 := Lib.hid hown
    have CP4 := Lib.hid (own_cap hown)
    have RD4 := Lib.hid (Rd.of_own hown)
    have N4 : Hid (n4 ≤ 6000) := by show _ ≤ _; rw [← RD4.out.1, R.out.1]; exact HM.out
    have P4 := Lib.hid (H.out.to hb)
    have R4 := Lib.hid (R.out.to hb)
    have OF4 : Hid (Off A4 n4 (fun k => F k ∨ G k)) := own_off hown (fun k hk => hk.elim (H.out.dk.lt k) (H.out.dr.lt k))
    have B4 := Lib.hid hb
    have HG4 : Hid (w.heap.size < w4.heap.size) := Nat.lt_of_lt_of_le HG.out hb.size
    have D1 : Hid (w4.cell? ⟨w.heap.size, 1, none⟩ = some (.int .i64 xn)) := (hb.cell HG.out).trans C1.out
    have D2 : Hid (w4.cell? ⟨w.heap.size, 2, none⟩ = some (.slice A m c)) := (hb.cell HG.out).trans C2.out
    clear hown hb c2
    have d1 := D1.out
    have d2 := D2.out
    go_wp2_with fail
    clear d1 d2
    refine (dArm d F s xn A4 n4 c4 xb w4 P4.out.dk HNN.out.2 RD4.out CP4.out.1 CP4.out.2).mono ?_
    rintro e w5 h6
    obtain ⟨rfl, F5, hh⟩ := P4.out.half h6
    have HH := Lib.hid hh
    have e1 : w5.cell? ⟨w.heap.size, 1, none⟩ = some (.int .i64 xn) := (hh.keep.cell (a := ⟨w.heap.size, 1, none⟩) HG4.out (fun hf => HGN.out _ (.inl hf) rfl)).trans D1.out
    have e2 : w5.cell? ⟨w.heap.size, 2, none⟩ = some (.slice A m c) := (hh.keep.cell (a := ⟨w.heap.size, 2, none⟩) HG4.out (fun hf => HGN.out _ (.inl hf) rfl)).trans D2.out
    have RA := Lib.hid (R4.out.kept hh.keep (HO.out.sub (fun _ h => .inl h)))
    have OM : Hid (w5.ownsRow w0.heap.size 5 1 (.slice A4 n4 c4) n4 (xb.map bval)) := own_keptF O4.out hh.keep (fun k hf => Nat.lt_trans (HLT.out k (.inl hf)) HG.out)
    clear h6 hh D1 D2 R4 RD4 P4
    go_wp2_with fail
    clear e1 e2
    refine (qArm r G s xn A m c xb w5 HH.out.dr HNN.out.2 RA.out (by have := HM.out; omega) (HO.out.sub (fun _ h => .inr h))).mono ?_
    rintro e wz h8
    obtain ⟨rfl, G8, hd⟩ := HH.out.full h8
    obtain ⟨_, _, _, _, hk8⟩ := h8
    have DDz := Lib.hid hd
    replace OM := Lib.hid (own_keptF OM.out hk8 (fun k hf => Nat.lt_trans (HLT.out k (.inr hf)) HG.out))
    clear hd hk8 RA HH
    go_wp2_with fail
    have HN : Hid (∀ k, (Value.slice A4 n4 c4).ownBlock = some k → w0.heap.size ≤ k ∧ ¬ F5 k ∧ ¬ G8 k) := fun k e => by
      have h1 := (own_from OM.out e).1
      have h2 : k < w4.heap.size := (own_from O4.out e).2
      have hB := B4.out.size
      have hg := HG.out
      refine ⟨h1, fun hf => ?_, fun hf => ?_⟩
      · rcases DDz.out.newF k hf with h | h
        · have := HLT.out k (.inl h); omega
        · omega
      · rcases DDz.out.newG k hf with h | h
        · have := HLT.out k (.inr h); omega
        · omega
    have DZ := Lib.hid (DDz.out.after B4.out)
    clear DDz CP4
    go_loopw [16] (fun i wr => IncK w0.heap.size n4 c4 A4 wz i wr) (fun i _ => n4 - (intOf i).toNat)
    case atStart => exact ⟨0, _, Nat.zero_le _, rfl, OM.out, Keep.refl _ _⟩
    case round =>
      obtain ⟨k, cs, hk, rfl, hown, hkeep⟩ := hrel
      have hn4 := N4.out
      by_cases hlt : k < n4
      · obtain ⟨g, rfl, hg⟩ := own_head hown (by omega)
        obtain ⟨hcell, hfr⟩ := own_cell (j := k) hown hlt
        go_wp2_with fail
        go_roundw
        case rel => exact IncK.next hlt hown hkeep (by go_num)
        case measure => simp [intOf]; omega
      · obtain rfl : k = n4 := by omega
        have DY := Lib.hid ((DZ.out.kept hkeep (fun k e => HN.out k e)).after HB.out)
        clear hown hkeep OM DZ hn4
        go_wp2_with fail
        go_ret
        exact ⟨rfl, _, _, _, DY.out⟩
  · skip
    go_enter Try.func13, Try.ntmps13
    go_wp2_with fail
    rw [HW0.out]
    clear c0 c1 c2
    refine (dStart d F s w0 H.out.dk).mono ?_
    rintro e w1 h6
    obtain ⟨rfl, F1, hh⟩ := H.out.half h6
    have HH := Lib.hid hh
    have D1 : Hid (w1.cell? ⟨w.heap.size, 1, none⟩ = some (.int .i64 xn)) := (hh.keep.cell (a := ⟨w.heap.size, 1, none⟩) HG.out (fun hf => HGN.out _ (.inl hf) rfl)).trans C1.out
    have D2 : Hid (w1.cell? ⟨w.heap.size, 2, none⟩ = some (.slice A m c)) := (hh.keep.cell (a := ⟨w.heap.size, 2, none⟩) HG.out (fun hf => HGN.out _ (.inl hf) rfl)).trans C2.out
    have R1 := Lib.hid (R.out.kept hh.keep (HO.out.sub (fun _ h => .inl h)))
    clear h6 hh
    have d1 := D1.out
    have d2 := D2.out
    go_wp2_with fail
    clear d1 d2
    refine (qStart r G s w1 HH.out.dr).mono ?_
    rintro e w2 h6
    obtain ⟨rfl, G2, hd⟩ := HH.out.full h6
    have DD := Lib.hid hd
    clear h6 hd
    go_wp2_with fail
    go_ret
    exact ⟨rfl, _, _, _, DD.out.after HB.out⟩
  · skip
    go_enter Try.func13, Try.ntmps13
    go_wp2_with fail
    rw [HW0.out]
    clear c0 c1 c2
    refine (dStart d F s w0 H.out.dk).mono ?_
    rintro e w1 h6
    obtain ⟨rfl, F1, hh⟩ := H.out.half h6
    have HH := Lib.hid hh
    have D1 : Hid (w1.cell? ⟨w.heap.size, 1, none⟩ = some (.int .i64 xn)) := (hh.keep.cell (a := ⟨w.heap.size, 1, none⟩) HG.out (fun hf => HGN.out _ (.inl hf) rfl)).trans C1.out
    have D2 : Hid (w1.cell? ⟨w.heap.size, 2, none⟩ = some (.slice A m c)) := (hh.keep.cell (a := ⟨w.heap.size, 2, none⟩) HG.out (fun hf => HGN.out _ (.inl hf) rfl)).trans C2.out
    have R1 := Lib.hid (R.out.kept hh.keep (HO.out.sub (fun _ h => .inl h)))
    clear h6 hh
    have d1 := D1.out
    have d2 := D2.out
    go_wp2_with fail
    clear d1 d2
    refine (qStart r G s w1 HH.out.dr).mono ?_
    rintro e w2 h6
    obtain ⟨rfl, G2, hd⟩ := HH.out.full h6
    have DD := Lib.hid hd
    clear h6 hd
    go_wp2_with fail
    go_ret
    exact ⟨rfl, _, _, _, DD.out.after HB.out⟩
  · obtain ⟨k0, k1, k2, k3, k4, k5, k6, k7, k8⟩ := hkd
    by_cases h9 : kd = 9
    · subst h9
      clear k0 k1 k2 k3 k4 k5 k6 k7 k8
      go_enter Try.func13, Try.ntmps13
      go_wp2_with fail
      rw [HW0.out]
      clear c0 c1 c2
      refine (dRead d F s xn w0 H.out.dk).mono ?_
      rintro e w3 ⟨A3, n3, c3, rfl, hown, hb⟩
      have RD3 := Lib.hid (Rd.of_own hown)
      have N3 : Hid (n3 ≤ 64) := by show _ ≤ _; rw [← RD3.out.1]; exact read_len HOK.out xn
      have P3 := Lib.hid (H.out.to hb)
      have BZ := Lib.hid (HB.out.trans (hb.mono HB.out.size))
      have d1 : w3.cell? ⟨w.heap.size, 1, none⟩ = some (.int .i64 xn) := (hb.cell HG.out).trans C1.out
      clear hown hb
      go_wp2_with fail
      clear d1
      refine (qRead r G s xn w3 P3.out.dr).mono ?_
      rintro e w4 ⟨A4, n4, c4, rfl, hown, hb⟩
      have RD4 := Lib.hid (Rd.of_own hown)
      have N4 : Hid (n4 ≤ 64) := by show _ ≤ _; rw [← RD4.out.1]; exact read_len HOK.out xn
      clear hown
      replace P3 := Lib.hid (P3.out.to hb)
      replace BZ := Lib.hid (BZ.out.trans (hb.mono BZ.out.size))
      replace RD3 := Lib.hid (RD3.out.to hb)
      clear hb
      generalize (s.read xn).2 = ev at *
      generalize (s.read xn).1 = bs at *
      go_wp2_with fail
      refine (refSameBT A3 A4 n3 n4 c3 c4 bs bs w4 rfl RD3.out RD4.out (by have := N3.out; omega) (by have := N4.out; omega)).mono ?_
      rintro e w5 ⟨rfl, hb⟩
      have DD := Lib.hid ((P3.out.to hb).did.after (BZ.out.trans (hb.mono BZ.out.size)))
      clear RD3 RD4 hb
      go_wp2_with fail
      go_ret
      exact ⟨rfl, _, _, _, DD.out⟩
    · go_enter Try.func13, Try.ntmps13
      go_wp2_with fail
      go_ret
      rw [HW0.out]
      exact ⟨rfl, _, _, _, H.out.did.after HB.out⟩
end Go.Proofs.Ytbkdgciaapkemaa
