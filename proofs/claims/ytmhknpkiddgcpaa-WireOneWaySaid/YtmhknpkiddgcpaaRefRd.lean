/- Contracts of the document's own reader (citadelref05.Reader): what it tells, what it becomes. -/
import Derived.Test.YtmhknpkiddgcpaaKeep
import Derived.Test.YtmhknpkiddgcpaaFldW
import Derived.Deep.RegionHeld
namespace Go.Proofs.Ytmhknpkiddgcpaa
open Go.RowKit
set_option linter.unusedVariables false
set_option linter.unusedSimpArgs false

/-- A reader: the bytes that are left, its error. -/
structure RS where
  rest : List UInt8
  e : Nat
/-- The next n bytes. -/
def RS.ok (s : RS) (n : Nat) : Bool := decide (s.e = 0) && decide (n ≤ s.rest.length)
def RS.got (s : RS) (n : Nat) : List UInt8 := if s.ok n then s.rest.take n else []
def RS.next (s : RS) (n : Nat) : RS := if s.ok n then ⟨s.rest.drop n, 0⟩ else if s.e = 0 then ⟨s.rest, 50⟩ else s
def RS.numb (s : RS) (n : Nat) : Nat := if s.ok n then numOf (s.rest.take n) else 0
theorem RS.got_len {s : RS} {n : Nat} : (s.got n).length ≤ n := by
  unfold RS.got
  split
  · simp; omega
  · simp

/-- The reader's block, and its bytes' (gb). -/
def RefAt (w : World) (g : Nat) (gb : Option Nat) (s : RS) : Prop :=
  ∃ (A : Option Addr) (n c k : Nat) (bs : List UInt8), w.heap[g]? = some (.cells #[.slice A n c, .int .i64 (k : Int), .int .i64 (s.e : Int)] 45 (0, 0)) ∧ Rd w w.heap.size A n bs ∧ (0 < n → ∃ b o, A = some ⟨b, o, none⟩ ∧ gb = some b ∧ b ≠ g) ∧ k ≤ n ∧ n ≤ c ∧ c ≤ 9223372036854775807 ∧ n ≤ 65536 ∧ bs.drop k = s.rest ∧ s.e ≤ 50
theorem RefAt.kept {R : Nat → Prop} {w w' : World} {g : Nat} {gb : Option Nat} {s : RS} (h : RefAt w g gb s) (hk : Keep R w w') (hg : ¬ R g) (hb : ∀ b, gb = some b → ¬ R b) : RefAt w' g gb s := by
  obtain ⟨A, n, c, k, bs, h1, h2, h3, h4⟩ := h
  refine ⟨A, n, c, k, bs, (hk.block g (heap_at_lt h1) hg).trans h1, h2.kept hk (fun hn b o e => ?_), h3, h4⟩
  obtain ⟨b', o', e', hgb, _⟩ := h3 hn
  rw [e] at e'
  injection e' with e'; injection e' with e1 _
  subst e1
  exact hb _ hgb
theorem RefAt.below {w w' : World} {g : Nat} {gb : Option Nat} {s : RS} (h : RefAt w g gb s) (hb : Below w.heap.size w w') : RefAt w' g gb s := h.kept (R := fun _ => False) (Keep.of_below hb) (fun h => h) (fun _ _ h => h)
theorem cells3 {w : World} {g : Nat} {a b c : Value} {T : TypeId} (h : w.heap[g]? = some (.cells #[a, b, c] T (0, 0))) :
    w.cell? ⟨g, 0, none⟩ = some a ∧ w.cell? ⟨g, 1, none⟩ = some b ∧ w.cell? ⟨g, 2, none⟩ = some c ∧ w.frozen? ⟨g, 0, none⟩ = false ∧ w.frozen? ⟨g, 1, none⟩ = false ∧ w.frozen? ⟨g, 2, none⟩ = false := by
  refine ⟨?_, ?_, ?_, ?_, ?_, ?_⟩ <;> simp [World.cell?, World.frozen?, h]
theorem set3_1 {w : World} {g : Nat} {a b c v : Value} {T : TypeId} (h : w.heap[g]? = some (.cells #[a, b, c] T (0, 0))) : (w.setCell ⟨g, 1, none⟩ v).heap[g]? = some (.cells #[a, v, c] T (0, 0)) := by
  rw [heap_setCell_same _ _ _ _ _ _ h]; rfl
theorem set3_2 {w : World} {g : Nat} {a b c v : Value} {T : TypeId} (h : w.heap[g]? = some (.cells #[a, b, c] T (0, 0))) : (w.setCell ⟨g, 2, none⟩ v).heap[g]? = some (.cells #[a, b, v] T (0, 0)) := by
  rw [heap_setCell_same _ _ _ _ _ _ h]; rfl
theorem set3_0 {w : World} {g : Nat} {a b c v : Value} {T : TypeId} (h : w.heap[g]? = some (.cells #[a, b, c] T (0, 0))) : (w.setCell ⟨g, 0, none⟩ v).heap[g]? = some (.cells #[v, b, c] T (0, 0)) := by
  rw [heap_setCell_same _ _ _ _ _ _ h]; rfl

set_option maxRecDepth 100000 in
set_option maxHeartbeats 1000000 in
theorem rdNext (g : Nat) (gb : Option Nat) (s : RS) (m : Nat) (w : World) (hr : RefAt w g gb s) (hm : m ≤ 65536) :
    Calls Try.prog 82 #[.pointer (some ⟨g, 0, none⟩), .int .i64 (m : Int)] w fun e w' => ∃ A n c, e = .returned (.tuple #[.slice A n c, .bool (s.ok m)]) ∧ OwR w' w.heap.size A n (s.got m) ∧ RefAt w' g gb (s.next m) ∧ Keep (· = g) w w' := by
  obtain ⟨A, n, c, k, bs, hg, hrd, hgb, hkn, hnc, hcc, hn64, hrest, he50⟩ := hr
  obtain ⟨x0, x1, x2, y0, y1, y2⟩ := cells3 hg
  have HG := Lib.hid hg
  have HR := Lib.hid hrd
  have HGB := Lib.hid hgb
  have HLT := Lib.hid (heap_at_lt hg)
  have hlen : s.rest.length = n - k := by rw [← hrest, List.length_drop, hrd.1]
  clear hg hrd hgb
  by_cases he : s.e = 0
  · have he' : (s.e : Int) = 0 := by omega
    rw [he'] at x2
    by_cases hm2 : m ≤ n - k
    · obtain ⟨q, hq⟩ : ∃ q : Nat, q = k + m := ⟨_, rfl⟩
      have hok : s.ok m = true := by unfold RS.ok; rw [decide_eq_true he, decide_eq_true (by omega)]; rfl
      have H1 : Hid (s.got m = s.rest.take m ∧ s.next m = ⟨s.rest.drop m, 0⟩) := ⟨by rw [RS.got, hok]; rfl, by rw [RS.next, hok]; rfl⟩
      have HOK := Lib.hid hok
      have HD := Lib.hid hrest
      have hng : ¬ (m : Int) > (n : Int) - (k : Int) := by omega
      have e1 : (k : Int) + (m : Int) = (q : Int) := by omega
      have e2 : (q : Int) - (m : Int) = (k : Int) := by omega
      obtain ⟨A5, c5, s5, hr5, hc5, hc5'⟩ := slice_lh isU8 A (l := k) (h := q) (by omega) (by omega) hnc
      replace s5 := s5 .i64 .i64
      rw [show q - k = m from by omega] at s5 hr5 hc5
      have HR5 := Lib.hid hr5
      have HQ := Lib.hid hq
      clear hok hrest hlen hr5 hq
      go_enter Try.func82, Try.ntmps82
      go_wp2
      go_quiet (fail)
      go_wp2
      have HOFF : Hid (Off A n (· = g)) := fun hn b o e h => by
        obtain ⟨b', o', e', _, hne⟩ := HGB.out hn
        rw [e] at e'
        injection e' with e'; injection e' with e1 _
        exact hne (e1.symm.trans h)
      have HB3 := Lib.hid (set3_1 (w := w.drewN nq) (v := .int .i64 (q : Int)) HG.out)
      have K3 : Hid (Keep (· = g) w ((w.drewN nq).setCell ⟨g, 1, none⟩ (.int .i64 (q : Int)))) := ((Keep.refl _ w).drewN _).setCell _ _ rfl
      have R3 := Lib.hid (HR.out.kept K3.out HOFF.out)
      generalize (w.drewN nq).setCell ⟨g, 1, none⟩ (.int .i64 (q : Int)) = w3 at *
      clear x0 x1 x2 y0 y1 y2 e1 HR HG
      replace HB3 : Hid (w3.drew.heap[g]? = some (.cells #[.slice A n c, .int .i64 (q : Int), .int .i64 (s.e : Int)] 45 (0, 0))) := HB3.out
      replace K3 := Lib.hid K3.out.drew
      replace R3 := Lib.hid R3.out.drew'
      generalize hwd : w3.drew = wd at *
      have HWD := Lib.hid hwd
      clear hwd
      obtain ⟨x0, x1, _, _, _, _⟩ := cells3 HB3.out
      have X01 : Hid (wd.cell? ⟨g, 0, none⟩ = some (.slice A n c) ∧ wd.cell? ⟨g, 1, none⟩ = some (.int .i64 (q : Int))) := ⟨x0, x1⟩
      have R5 := Lib.hid (HR5.out _ _ _ R3.out)
      have hgot : (bs.take q).drop k = s.got m := by rw [H1.out.1, ← HD.out, List.drop_take, HQ.out, show k + m - k = m from by omega]
      rw [hgot] at R5
      have HNX : Hid (bs.drop q = (s.next m).rest ∧ (s.next m).e = 0) := ⟨by rw [H1.out.2]; show bs.drop q = s.rest.drop m; rw [← HD.out, List.drop_drop, HQ.out], by rw [H1.out.2]⟩
      have HGL := Lib.hid (heap_at_lt HB3.out)
      have HSE : Hid ((s.e : Int) = 0) := he'
      have hqn : q ≤ n := by have := HQ.out; omega
      have hwk : IntKind.i64.wrap (k : Int) = (k : Int) := IntWalk.i64_in _ (by omega)
      clear x0 x1 HR5 hgot HD HQ
      refine wp_region_held_drew (S := (fun w' => w'.cell? ⟨g, 0, none⟩ = some (.slice A n c) ∧ w'.cell? ⟨g, 1, none⟩ = some (.int .i64 (q : Int)))) (by kernel_rfl) ((by rw [HWD.out]; exact X01.out)) (fun hHeld => ?_)
      rw [HWD.out] at hHeld ⊢
      refine wpAnyH_take (i := 0) (v := ?_) rfl (by kernel_rfl) (by kernel_rfl) (by kernel_rfl) (fun _ _ _ h => h) (Or.inl ⟨by rfl, ?_⟩) (by assumption) ?_
      rotate_left 1
      · intro w hSw; (try dsimp only at hSw); go_simp; (try with_reducible rfl)
      simp only [Act.put, List.getElem_toArray, List.getElem_cons_zero, List.getElem_cons_succ, List.setIfInBounds_toArray, List.set_cons_zero, List.set_cons_succ]
      refine wpAnyH_take (i := 1) (v := ?_) rfl (by kernel_rfl) (by kernel_rfl) (by kernel_rfl) (fun _ _ _ h => h) (Or.inl ⟨by rfl, ?_⟩) (by assumption) ?_
      rotate_left 1
      · intro w hSw; (try dsimp only at hSw); go_simp; (try with_reducible rfl)
      simp only [Act.put, List.getElem_toArray, List.getElem_cons_zero, List.getElem_cons_succ, List.setIfInBounds_toArray, List.set_cons_zero, List.set_cons_succ]
      refine wpAnyH_take (i := 2) (v := ?_) rfl (by kernel_rfl) (by kernel_rfl) (by kernel_rfl) (fun _ _ _ h => h) (Or.inl ⟨by rfl, ?_⟩) (by assumption) ?_
      rotate_left 1
      · intro w hSw; (try dsimp only at hSw); go_simp; (try with_reducible rfl)
      simp only [Act.put, List.getElem_toArray, List.getElem_cons_zero, List.getElem_cons_succ, List.setIfInBounds_toArray, List.set_cons_zero, List.set_cons_succ]
      refine wpAnyH_take (i := 3) (v := ?_) rfl (by kernel_rfl) (by kernel_rfl) (by kernel_rfl) (fun _ _ _ h => h) (Or.inl ⟨by rfl, ?_⟩) (by assumption) ?_
      rotate_left 1
      · intro w hSw; (try dsimp only at hSw); go_simp; (try with_reducible rfl)
      simp only [Act.put, List.getElem_toArray, List.getElem_cons_zero, List.getElem_cons_succ, List.setIfInBounds_toArray, List.set_cons_zero, List.set_cons_succ]
      refine wpAnyH_take (i := 4) (v := ?_) rfl (by kernel_rfl) (by kernel_rfl) (by kernel_rfl) (fun _ _ _ h => h) (Or.inl ⟨by rfl, ?_⟩) (by assumption) ?_
      rotate_left 1
      · intro w hSw; (try dsimp only at hSw); go_simp; (try with_reducible rfl)
      simp only [Act.put, List.getElem_toArray, List.getElem_cons_zero, List.getElem_cons_succ, List.setIfInBounds_toArray, List.set_cons_zero, List.set_cons_succ]
      refine wpAnyH_take (i := 5) (v := ?_) rfl (by kernel_rfl) (by kernel_rfl) (by kernel_rfl) (fun _ _ _ h => h) (Or.inl ⟨by rfl, ?_⟩) (by assumption) ?_
      rotate_left 1
      · intro w hSw; (try dsimp only at hSw); go_simp; (try with_reducible rfl)
      simp only [Act.put, List.getElem_toArray, List.getElem_cons_zero, List.getElem_cons_succ, List.setIfInBounds_toArray, List.set_cons_zero, List.set_cons_succ]
      refine wpAnyH_take (i := 6) (v := ?_) rfl (by kernel_rfl) (by kernel_rfl) (by kernel_rfl) (fun _ _ _ h => h) (Or.inl ⟨by rfl, ?_⟩) (by assumption) ?_
      rotate_left 1
      · intro w hSw; (try dsimp only at hSw); go_simp; (try with_reducible rfl)
      simp only [Act.put, List.getElem_toArray, List.getElem_cons_zero, List.getElem_cons_succ, List.setIfInBounds_toArray, List.set_cons_zero, List.set_cons_succ]
      refine wpAnyH_take (i := 7) (v := ?_) rfl (by kernel_rfl) (by kernel_rfl) (by kernel_rfl) (fun _ _ _ h => h) (Or.inl ⟨by rfl, ?_⟩) (by assumption) ?_
      rotate_left 1
      · intro w hSw; (try dsimp only at hSw); go_simp; (try with_reducible rfl)
      simp only [Act.put, List.getElem_toArray, List.getElem_cons_zero, List.getElem_cons_succ, List.setIfInBounds_toArray, List.set_cons_zero, List.set_cons_succ]
      refine wpAnyH_take (i := 8) (v := ?_) rfl (by kernel_rfl) (by kernel_rfl) (by kernel_rfl) (fun _ _ _ h => h) (Or.inl ⟨by rfl, ?_⟩) (by assumption) ?_
      rotate_left 1
      · intro w hSw; (try dsimp only at hSw); go_simp; (try with_reducible rfl)
      simp only [Act.put, List.getElem_toArray, List.getElem_cons_zero, List.getElem_cons_succ, List.setIfInBounds_toArray, List.set_cons_zero, List.set_cons_succ]
      refine wpAnyH_take (i := 9) (v := ?_) rfl (by kernel_rfl) (by kernel_rfl) (by kernel_rfl) (fun _ _ _ h => h) (Or.inl ⟨by rfl, ?_⟩) (by assumption) ?_
      rotate_left 1
      · intro w hSw; (try dsimp only at hSw); go_simp; (try with_reducible rfl)
      simp only [Act.put, List.getElem_toArray, List.getElem_cons_zero, List.getElem_cons_succ, List.setIfInBounds_toArray, List.set_cons_zero, List.set_cons_succ]
      refine wpAnyH_take (i := 10) (v := ?_) rfl (by kernel_rfl) (by kernel_rfl) (by kernel_rfl) (fun _ _ _ h => h) (Or.inl ⟨by rfl, ?_⟩) (by assumption) ?_
      rotate_left 1
      · intro w hSw; (try dsimp only at hSw); go_simp; (try with_reducible rfl)
      simp only [Act.put, List.getElem_toArray, List.getElem_cons_zero, List.getElem_cons_succ, List.setIfInBounds_toArray, List.set_cons_zero, List.set_cons_succ]
      refine wpAnyH_take (i := 11) (v := ?_) rfl (by kernel_rfl) (by kernel_rfl) (by kernel_rfl) (fun _ _ _ h => h) (Or.inl ⟨by rfl, ?_⟩) (by assumption) ?_
      rotate_left 1
      · intro w hSw; (try dsimp only at hSw); go_simp; (try with_reducible rfl)
      simp only [Act.put, List.getElem_toArray, List.getElem_cons_zero, List.getElem_cons_succ, List.setIfInBounds_toArray, List.set_cons_zero, List.set_cons_succ]
      refine wpAnyH_take (i := 12) (v := ?_) rfl (by kernel_rfl) (by kernel_rfl) (by kernel_rfl) (fun _ _ _ h => h) (Or.inl ⟨by rfl, ?_⟩) (by assumption) ?_
      rotate_left 1
      · intro w hSw; (try dsimp only at hSw); go_simp; (try with_reducible rfl)
      simp only [Act.put, List.getElem_toArray, List.getElem_cons_zero, List.getElem_cons_succ, List.setIfInBounds_toArray, List.set_cons_zero, List.set_cons_succ]
      refine wpAnyH_take (i := 13) (v := ?_) rfl (by kernel_rfl) (by kernel_rfl) (by kernel_rfl) (fun _ _ _ h => h) (Or.inl ⟨by rfl, ?_⟩) (by assumption) ?_
      rotate_left 1
      · intro w hSw; (try dsimp only at hSw); go_simp; (try with_reducible rfl)
      simp only [Act.put, List.getElem_toArray, List.getElem_cons_zero, List.getElem_cons_succ, List.setIfInBounds_toArray, List.set_cons_zero, List.set_cons_succ]
      refine wpAnyH_take (i := 14) (v := ?_) rfl (by kernel_rfl) (by kernel_rfl) (by kernel_rfl) (fun _ _ _ h => h) (Or.inl ⟨by rfl, ?_⟩) (by assumption) ?_
      rotate_left 1
      · intro w hSw; (try dsimp only at hSw); go_simp; (try with_reducible rfl)
      simp only [Act.put, List.getElem_toArray, List.getElem_cons_zero, List.getElem_cons_succ, List.setIfInBounds_toArray, List.set_cons_zero, List.set_cons_succ]
      refine wpAnyH_ready (rs := [15]) (by kernel_rfl) (by simp) ?_
      refine AllReadyH.cons rfl (fun K hK => ?_) AllReadyH.nil
      go_simp
      refine (refCopy A5 m c5 (s.got m) wd R5.out (by omega)).mono ?_
      rintro e w4 ⟨A6, n6, c6, rfl, hown6, hb⟩
      have BB := Lib.hid hb
      have O6 := Lib.hid (OwR.of_own hown6)
      clear hown6 hb
      go_wp2_with fail
      refine hK.out _ _ (⟨(BB.out.cell HGL.out).trans X01.out.1, (BB.out.cell HGL.out).trans X01.out.2⟩) (fun hHeld => ?_)
      clear hK K
      refine wpAnyH_take (i := 16) (v := ?_) rfl (by kernel_rfl) (by kernel_rfl) (by kernel_rfl) (fun _ _ _ h => h) (Or.inl ⟨by rfl, ?_⟩) (by assumption) ?_
      rotate_left 1
      · intro w hSw; (try dsimp only at hSw); go_simp; (try with_reducible rfl)
      simp only [Act.put, List.getElem_toArray, List.getElem_cons_zero, List.getElem_cons_succ, List.setIfInBounds_toArray, List.set_cons_zero, List.set_cons_succ]
      refine wpAnyH_take (i := 17) (v := ?_) rfl (by kernel_rfl) (by kernel_rfl) (by kernel_rfl) (fun _ _ _ h => h) (Or.inl ⟨by rfl, ?_⟩) (by assumption) ?_
      rotate_left 1
      · intro w hSw; (try dsimp only at hSw); go_simp; (try with_reducible rfl)
      simp only [Act.put, List.getElem_toArray, List.getElem_cons_zero, List.getElem_cons_succ, List.setIfInBounds_toArray, List.set_cons_zero, List.set_cons_succ]
      refine wpAnyH_done (by kernel_rfl) ?_ _
      clear hHeld
      go_wp2_with fail
      go_ret2
      rw [HOK.out]
      have hblk : w4.heap[g]? = some (.cells #[.slice A n c, .int .i64 (q : Int), .int .i64 (s.e : Int)] 45 (0, 0)) := (BB.out.block g HGL.out).trans HB3.out
      rw [HSE.out] at hblk
      exact ⟨_, _, _, rfl, O6.out.mono K3.out.size, ⟨A, n, c, q, bs, by rw [HNX.out.2]; exact hblk, R3.out.to BB.out, HGB.out, hqn, hnc, hcc, hn64, HNX.out.1, by rw [HNX.out.2]; decide⟩, K3.out.trans (Keep.of_below BB.out)⟩
    · have hok : s.ok m = false := by unfold RS.ok; rw [decide_eq_false (show ¬ m ≤ s.rest.length by omega), Bool.and_false]
      have H1 : Hid (s.got m = [] ∧ s.next m = ⟨s.rest, 50⟩) := ⟨by rw [RS.got, hok]; rfl, by rw [RS.next, hok, if_pos he]; rfl⟩
      have HOK := Lib.hid hok
      have HD := Lib.hid hrest
      have hgt : (m : Int) > (n : Int) - (k : Int) := by omega
      clear hok hrest hlen
      go_enter Try.func82, Try.ntmps82
      go_wp2
      go_quiet (fail)
      go_wp2
      go_ret2
      rw [H1.out.1, H1.out.2, HOK.out]
      refine ⟨_, _, _, rfl, ⟨Rd.nil _ _ _, fun h => absurd h (Nat.lt_irrefl 0)⟩, ⟨A, n, c, k, bs, ?_, ?_, HGB.out, hkn, hnc, hcc, hn64, HD.out, Nat.le_refl _⟩, ?_⟩
      · exact set3_2 (w := w.drewN _) HG.out
      · exact HR.out.kept (R := (· = g)) ((Keep.refl _ w).drewN _ |>.setCell _ _ rfl) (fun hn b o e h => by
          obtain ⟨b', o', e', _, hne⟩ := HGB.out hn
          rw [e] at e'
          injection e' with e'; injection e' with e1 _
          exact hne (e1.symm.trans h))
      · exact (Keep.refl _ w).drewN _ |>.setCell _ _ rfl
  · have hok : s.ok m = false := by unfold RS.ok; rw [decide_eq_false he]; rfl
    have H1 : Hid (s.got m = [] ∧ s.next m = s) := ⟨by rw [RS.got, hok]; rfl, by rw [RS.next, hok, if_neg he]; rfl⟩
    have HOK := Lib.hid hok
    have HD := Lib.hid hrest
    have hne : ((s.e : Int) == 0) = false := by simp; omega
    have hne' : ¬ (s.e : Int) = 0 := by omega
    clear hok hrest hlen
    go_enter Try.func82, Try.ntmps82
    go_wp2
    go_ret2
    rw [H1.out.1, H1.out.2, HOK.out]
    exact ⟨_, _, _, rfl, ⟨Rd.nil _ _ _, fun h => absurd h (Nat.lt_irrefl 0)⟩, ⟨A, n, c, k, bs, HG.out, HR.out, HGB.out, hkn, hnc, hcc, hn64, HD.out, he50⟩, Keep.refl _ _⟩
end Go.Proofs.Ytmhknpkiddgcpaa
