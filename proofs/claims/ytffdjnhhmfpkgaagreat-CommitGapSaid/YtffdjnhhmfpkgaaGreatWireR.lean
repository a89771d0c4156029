/- The program's reader (wire), part one: where it lies (PrAt), Err, Left, End, New, what its closures say, and every take of a reader that has failed. -/
import Derived.Test.YtffdjnhhmfpkgaaGreatTz
import Derived.Test.YtffdjnhhmfpkgaaGreatR3
import Derived.Test.YtffdjnhhmfpkgaaGreatR2
import Derived.Test.YtffdjnhhmfpkgaaGreatRB
namespace Go.Proofs.YtffdjnhhmfpkgaaGreat
set_option maxRecDepth 1000000
set_option maxHeartbeats 8000000
open Go.RowKit
set_option linter.unusedVariables false
set_option linter.unusedSimpArgs false
def PrAt (w : World) (g : Nat) (F : Nat → Prop) (s : RS) : Prop :=
 ∃ (A : Option Addr) (n c : Nat) (bs : List UInt8), w.heap[g]? = some (.cells #[.bool true, .slice A n c, .int .i64 (s.e : Int)] 140 (0, 0)) ∧ Rd w w.heap.size A n bs ∧ F g ∧ (0 < n → ∃ b o, A = some ⟨b, o, none⟩ ∧ F b ∧ b ≠ g) ∧ (∀ k, F k → k < w.heap.size) ∧ n ≤ c ∧ c ≤ 9223372036854775807 ∧ n ≤ 65536 ∧ (s.e = 0 → bs = s.rest) ∧ s.e ≤ 50
theorem PrAt.lt {w : World} {g : Nat} {F : Nat → Prop} {s : RS} (h : PrAt w g F s) : ∀ k, F k → k < w.heap.size := by
 obtain ⟨A, n, c, bs, h1, h2, h3, h4, h5, _⟩ := h
 exact h5
theorem PrAt.kept {R : Nat → Prop} {w w' : World} {g : Nat} {F : Nat → Prop} {s : RS} (h : PrAt w g F s) (hk : Keep R w w') (hn : ∀ k, F k → ¬ R k) : PrAt w' g F s := by
 obtain ⟨A, n, c, bs, h1, h2, h3, h4, h5, h6⟩ := h
 refine ⟨A, n, c, bs, (hk.block g (h5 g h3) (hn g h3)).trans h1, h2.kept hk (fun h0 b o e => ?_), h3, h4, fun k hf => Nat.lt_of_lt_of_le (h5 k hf) hk.size, h6⟩
 obtain ⟨b', o', e', hF, _⟩ := h4 h0
 rw [e] at e'
 injection e' with e'; injection e' with e1 _
 rw [e1]; exact hn _ hF
theorem PrAt.to {w w' : World} {g : Nat} {F : Nat → Prop} {s : RS} (h : PrAt w g F s) (hb : Below w.heap.size w w') : PrAt w' g F s := h.kept (R := fun _ => False) (Keep.of_below hb) (fun _ _ h => h)
theorem PrAt.as {w : World} {g : Nat} {F : Nat → Prop} {s s' : RS} (h : PrAt w g F s) (he : s.e = s'.e) (hr : s.e = 0 → s.rest = s'.rest) : PrAt w g F s' := by
 obtain ⟨A, n, c, bs, h1, h2, h3, h4, h5, h6, h7, h8, h9, h10⟩ := h
 refine ⟨A, n, c, bs, by rw [← he]; exact h1, h2, h3, h4, h5, h6, h7, h8, fun h => (h9 (he.trans h)).trans (hr (he.trans h)), by omega⟩
def PrTo (w : World) (g : Nat) (F : Nat → Prop) (s' : RS) (w' : World) : Prop := ∃ F', PrAt w' g F' s' ∧ (∀ k, F' k → F k ∨ w.heap.size ≤ k) ∧ Keep F w w'
theorem PrTo.of_below {w w' : World} {g : Nat} {F : Nat → Prop} {s s' : RS} (h : PrAt w g F s) (hb : Below w.heap.size w w') (he : s.e = s'.e) (hr : s.e = 0 → s.rest = s'.rest) : PrTo w g F s' w' := ⟨F, (h.to hb).as he hr, fun k h => .inl h, Keep.of_below hb⟩
def ErrIs (p : Value) (w : World) (e0 : Nat) : Prop := Calls Tryz.prog 113 #[p] w fun e w' => e = .returned (.int .i64 (e0 : Int)) ∧ w = w'
theorem errIs_made (g : Nat) (x : Value) (e0 : Nat) (w : World) (h : w.heap[g]? = some (.cells #[.bool true, x, .int .i64 (e0 : Int)] 140 (0, 0))) : ErrIs (.pointer (some ⟨g, 0, none⟩)) w e0 := by
 obtain ⟨x0, x1, x2, _, _, _⟩ := cells3 h
 clear h
 unfold ErrIs
 go_enter Tryz.func113, Tryz.ntmps113
 go_wp2
 go_ret
 exact ⟨rfl, rfl⟩
theorem errIs_unmade (g : Nat) (w : World) (h : w.cell? ⟨g, 0, none⟩ = some (.bool false)) : ErrIs (.pointer (some ⟨g, 0, none⟩)) w 1 := by
 unfold ErrIs
 go_enter Tryz.func113, Tryz.ntmps113
 go_wp2
 go_ret
 exact ⟨rfl, rfl⟩
theorem errIs_nil (w : World) : ErrIs (.pointer none) w 1 := by
 unfold ErrIs
 go_enter Tryz.func113, Tryz.ntmps113
 go_wp2
 go_ret
 exact ⟨rfl, rfl⟩
theorem PrAt.err {w : World} {g : Nat} {F : Nat → Prop} {s : RS} (h : PrAt w g F s) : ErrIs (.pointer (some ⟨g, 0, none⟩)) w s.e := by
 obtain ⟨A, n, c, bs, h1, _⟩ := h
 exact errIs_made g _ s.e w h1
theorem takeByte_bad (p S V : Value) (e0 : Nat) (w : World) (h : ErrIs p w e0) (he : e0 ≠ 0) : Calls Tryz.prog 105 #[p, S, V] w fun e w' => e = .returned (.int .u8 0) ∧ w = w' := by
 have H := qH h
 have hne : ((e0 : Int) != 0) = true := by simp; omega
 have hne' : ¬ (e0 : Int) = 0 := by omega
 clear h he
 go_enter Tryz.func105, Tryz.ntmps105
 go_wp2_with fail
 refine (H.out).mono ?_
 rintro e w1 ⟨rfl, rfl⟩
 go_wp2_with fail
 go_ret
 exact ⟨rfl, rfl⟩
theorem takeInt_bad (p S V : Value) (e0 : Nat) (w : World) (h : ErrIs p w e0) (he : e0 ≠ 0) : Calls Tryz.prog 102 #[p, S, V] w fun e w' => e = .returned (.int .i64 0) ∧ w = w' := by
 have H := qH h
 have hne : ((e0 : Int) != 0) = true := by simp; omega
 have hne' : ¬ (e0 : Int) = 0 := by omega
 clear h he
 go_enter Tryz.func102, Tryz.ntmps102
 go_wp2_with fail
 refine (H.out).mono ?_
 rintro e w1 ⟨rfl, rfl⟩
 go_wp2_with fail
 go_ret
 exact ⟨rfl, rfl⟩
theorem takeBool_bad (p S V : Value) (e0 : Nat) (w : World) (h : ErrIs p w e0) (he : e0 ≠ 0) : Calls Tryz.prog 108 #[p, S, V] w fun e w' => e = .returned (.bool false) ∧ w = w' := by
 have H := qH h
 have hne : ((e0 : Int) != 0) = true := by simp; omega
 have hne' : ¬ (e0 : Int) = 0 := by omega
 clear h he
 go_enter Tryz.func108, Tryz.ntmps108
 go_wp2_with fail
 refine (H.out).mono ?_
 rintro e w1 ⟨rfl, rfl⟩
 go_wp2_with fail
 go_ret
 exact ⟨rfl, rfl⟩
theorem pLeft_bad (p : Value) (e0 : Nat) (w : World) (h : ErrIs p w e0) (he : e0 ≠ 0) : Calls Tryz.prog 112 #[p] w fun e w' => e = .returned (.int .i64 0) ∧ w = w' := by
 have H := qH h
 have hne : ((e0 : Int) != 0) = true := by simp; omega
 have hne' : ¬ (e0 : Int) = 0 := by omega
 clear h he
 go_enter Tryz.func112, Tryz.ntmps112
 go_wp2_with fail
 refine (H.out).mono ?_
 rintro e w1 ⟨rfl, rfl⟩
 go_wp2_with fail
 go_ret
 exact ⟨rfl, rfl⟩
theorem pLeft (g : Nat) (F : Nat → Prop) (s : RS) (w : World) (h : PrAt w g F s) : Calls Tryz.prog 112 #[.pointer (some ⟨g, 0, none⟩)] w fun e w' => e = .returned (.int .i64 (leftV s : Int)) ∧ Below w.heap.size w w' := by
 have HE := qH h.err
 by_cases he : s.e = 0
 ·have HL : Hid (leftV s = s.rest.length) := if_pos he
  obtain ⟨A, n, c, bs, h1, h2, h3, h4, h5, h6, h7, h8, h9, h10⟩ := h
  have HN : Hid (s.rest.length = n) := by (show _ = _); rw [← h9 he, h2.1]
  obtain ⟨x0, x1, x2, _, _, _⟩ := cells3 h1
  rw [he] at HE x2
  clear h1 h2 h3 h4 h5 h9 h10 he
  go_enter Tryz.func112, Tryz.ntmps112
  go_wp2_with fail
  refine (HE.out).mono ?_
  rintro e w1 ⟨rfl, rfl⟩
  go_wp2_with fail
  go_ret
  rw [HL.out, HN.out]
  exact ⟨rfl, Below.refl _ _⟩
 ·have HL : Hid (leftV s = 0) := if_neg he
  refine (pLeft_bad _ s.e w HE.out he).mono ?_
  rintro e w1 ⟨rfl, rfl⟩
  rw [HL.out]
  exact ⟨rfl, Below.refl _ _⟩
theorem pErr (g : Nat) (F : Nat → Prop) (s : RS) (w : World) (h : PrAt w g F s) : Calls Tryz.prog 113 #[.pointer (some ⟨g, 0, none⟩)] w fun e w' => e = .returned (.int .i64 (s.e : Int)) ∧ Below w.heap.size w w' := by
 refine h.err.mono ?_
 rintro e w1 ⟨rfl, rfl⟩
 exact ⟨rfl, Below.refl _ _⟩
theorem pEnd_bad (p : Value) (e0 : Nat) (w : World) (h : ErrIs p w e0) (he : e0 ≠ 0) : Calls Tryz.prog 88 #[p] w fun e w' => e = .returned (.int .i64 (e0 : Int)) ∧ w = w' := by
 have H := qH h
 have HL := qH (pLeft_bad p e0 w h he)
 clear h he
 go_enter Tryz.func88, Tryz.ntmps88
 go_wp2_with fail
 refine (HL.out).mono ?_
 rintro e w1 ⟨rfl, rfl⟩
 go_wp2_with fail
 refine (H.out).mono ?_
 rintro e w1 ⟨rfl, rfl⟩
 go_wp2_with fail
 go_ret
 exact ⟨rfl, rfl⟩
theorem pEnd (g : Nat) (F : Nat → Prop) (s : RS) (w : World) (h : PrAt w g F s) : Calls Tryz.prog 88 #[.pointer (some ⟨g, 0, none⟩)] w fun e w' => e = .returned (.int .i64 (endV s : Int)) ∧ Below w.heap.size w w' := by
 have H := qH h
 have HE : Hid (endV s = if s.e = 0 ∧ 0 < s.rest.length then 50 else s.e) := rfl
 have HL : Hid (leftV s = if s.e = 0 then s.rest.length else 0) := rfl
 clear h
 go_enter Tryz.func88, Tryz.ntmps88
 go_wp2_with fail
 refine (pLeft g F s w H.out).mono ?_
 obtain ⟨l, hl⟩ : ∃ l, leftV s = l := ⟨_, rfl⟩
 rw [hl] at HL ⊢
 have HLL := qH hl
 clear hl
 rintro e w1 ⟨rfl, hb⟩
 have B := qH hb
 replace H := qH (H.out.to hb)
 clear hb
 by_cases h0 : (0 : Int) < (l : Int)
 ·have hs : s.e = 0 ∧ 0 < s.rest.length := by
   have h := HL.out
   by_cases he : s.e = 0
   ·rw [if_pos he] at h; exact ⟨he, by omega⟩
   ·rw [if_neg he] at h; omega
  rw [if_pos hs] at HE
  clear hs
  go_wp2_with fail
  go_ret
  rw [HE.out]
  exact ⟨rfl, B.out⟩
 ·have hs : ¬ (s.e = 0 ∧ 0 < s.rest.length) := fun hh => by
   have h := HL.out
   rw [if_pos hh.1] at h; omega
  rw [if_neg hs] at HE
  clear hs
  go_wp2_with fail
  refine (pErr g F s _ H.out).mono ?_
  obtain ⟨se, hse⟩ : ∃ l, s.e = l := ⟨_, rfl⟩
  rw [hse] at HE ⊢
  clear hse
  rintro e w2 ⟨rfl, hb⟩
  replace B := qH (B.out.trans (hb.mono B.out.size))
  clear hb
  go_wp2_with fail
  go_ret
  rw [HE.out]
  exact ⟨rfl, B.out⟩
theorem pNewL (A : Option Addr) (n c : Nat) (bs : List UInt8) (w : World) (ha : Rd w w.heap.size A n bs) (hc : n ≤ c) (hc' : c ≤ 9223372036854775807) (hn : n ≤ 140737488355328) :
  Calls Tryz.prog 83 #[.slice A n c] w fun e w' => ∃ g F, e = .returned (.pointer (some ⟨g, 0, none⟩)) ∧ PrAt w' g F (newRS bs) ∧ (∀ k, F k → w.heap.size ≤ k) ∧ Below w.heap.size w w' := by
 have HA := qH ha
 by_cases h : (n : Int) > 65536
 ·have HN : Hid (newRS bs = ⟨[], 3⟩) := by
   show _ = _
   rw [newRS, if_pos (by rw [ha.1]; omega)]
  clear ha
  go_enter Tryz.func83, Tryz.ntmps83
  go_wp2_with fail
  go_ret
  rw [HN.out]
  exact ⟨w.heap.size, (· = w.heap.size), rfl, ⟨none, 0, 0, [], heap_alloc_last w _, Rd.nil _ _ _, rfl, fun h => absurd h (Nat.lt_irrefl 0), fun k h => by rw [h]; simp, by decide, by decide, by decide, fun h => rfl, by decide⟩, fun k h => Nat.le_of_eq h.symm, (Below.refl _ _).alloc (Nat.le_refl _) _⟩
 ·have HN : Hid (newRS bs = ⟨bs, 0⟩) := by
   show _ = _
   rw [newRS, if_neg (by rw [ha.1]; omega)]
  clear ha
  go_enter Tryz.func83, Tryz.ntmps83
  go_wp2_with fail
  refine (wCat1 A n c bs w HA.out (by omega)).mono ?_
  rintro e w1 ⟨A1, n1, c1, rfl, hown1, hb⟩
  obtain rfl : n1 = n := (Rd.of_own hown1).1.symm.trans HA.out.1
  have R := qH (Rd.of_own hown1)
  obtain ⟨hcp, hcp'⟩ := own_cap hown1
  have HH := qH (fun h0 => own_head hown1 h0)
  have B := qH hb
  clear hown1 hb
  go_wp2_with fail
  go_ret
  rw [HN.out]
  have hs : (w1.alloc (.cells #[.bool true, .slice A1 n1 c1, .int .i64 0] 140)).heap.size = w1.heap.size + 1 := by simp
  refine ⟨w1.heap.size, (fun k => w.heap.size ≤ k ∧ k < w1.heap.size + 1), rfl, ⟨A1, n1, c1, bs, heap_alloc_last w1 _, R.out.grow _, ⟨B.out.size, by omega⟩, fun h0 => ?_, fun k hk => ?_, hcp, hcp', by omega, fun _ => rfl, Nat.zero_le _⟩, fun k hk => hk.1, B.out.alloc B.out.size _⟩
  ·obtain ⟨g, rfl, hg⟩ := HH.out h0
   obtain ⟨b', o', e', hlt, _⟩ := R.out.2 h0
   injection e' with e'; injection e' with e1 _
   exact ⟨g, 0, rfl, ⟨hg, by omega⟩, by omega⟩
  ·show k < (w1.alloc (.cells #[.bool true, .slice A1 n1 c1, .int .i64 0] 140)).heap.size
   omega
theorem pNew (A : Option Addr) (n c : Nat) (bs : List UInt8) (w : World) (ha : Rd w w.heap.size A n bs) (hc : n ≤ c) (hc' : c ≤ 9223372036854775807) (hn : n ≤ 1000000) :
  Calls Tryz.prog 83 #[.slice A n c] w fun e w' => ∃ g F, e = .returned (.pointer (some ⟨g, 0, none⟩)) ∧ PrAt w' g F (newRS bs) ∧ (∀ k, F k → w.heap.size ≤ k) ∧ Below w.heap.size w w' := pNewL A n c bs w ha hc hc' (Nat.le_trans hn (by decide))
theorem wAlways (n : Int) (w : World) : Calls Tryz.prog 103 #[.int .i64 n] w fun e w' => e = .returned (.func (.func 123) #[] #[.pointer (some ⟨w.heap.size, 0, none⟩)]) ∧ w'.cell? ⟨w.heap.size, 0, none⟩ = some (.int .i64 n) ∧ w.heap.size < w'.heap.size ∧ Below w.heap.size w w' := by
 have hmf : ∀ (fn : Fn) (first cap : Array Value) (w : World), (Instr.makeFunc fn first cap).run Tryz.prog w = .ok (.func fn first cap) w := fun _ _ _ _ => rfl
 go_enter Tryz.func103, Tryz.ntmps103
 go_wp2_with fail
 go_ret
 exact ⟨rfl, by rw [World.cell?_alloc_at _ _ _ _ (by rfl)]; rfl, by simp, (Below.refl _ _).alloc (Nat.le_refl _) _⟩
theorem wAlways1 (x : Value) (h : Nat) (n : Int) (w : World) (hc : w.cell? ⟨h, 0, none⟩ = some (.int .i64 n)) : Calls Tryz.prog 123 #[x, .pointer (some ⟨h, 0, none⟩)] w fun e w' => e = .returned (.tuple #[.int .i64 n, .bool true]) ∧ w = w' := by
 go_enter Tryz.func123, Tryz.ntmps123
 go_wp2_with fail
 go_ret2
 exact ⟨rfl, rfl⟩
theorem loadOf_zero {bs : List UInt8} {k : Nat} (h : k ≤ bs.length) (h1 : 0 < k) (h8 : k ≤ 8) : loadOf bs 0 k = numOf (bs.take k) ∧ loadOk bs 0 k = true := by
 have := loadOf_yes (bs := bs) (p := 0) (k := k) (by omega) h1 h8
 simp at this
 exact ⟨this.1, this.2.1⟩
theorem wNumbr (A : Option Addr) (n c : Nat) (bs : List UInt8) (w : World) (ha : Rd w w.heap.size A n bs) (hn : n ≤ c) (hc : c ≤ 9223372036854775807) :
  Calls Tryz.prog 104 #[.slice A n c] w fun e w' => e = .returned (.int .i64 (wrap64 (loadOf bs 0 8 : Int))) ∧ w = w' := by
 have HA := qH ha
 obtain ⟨y, hyy⟩ : ∃ y, loadOf bs 0 8 = y := ⟨_, rfl⟩
 rw [hyy]
 have HY := qH hyy
 clear ha hyy
 go_enter Tryz.func104, Tryz.ntmps104
 go_wp2_with fail
 refine (wLoad64 A n c w.heap.size 0 bs w HA.out hn hc (by decide) (by decide)).mono ?_
 rw [HY.out]
 generalize loadOk bs 0 8 = z at *
 rintro e w' ⟨rfl, rfl⟩
 go_wp2_with fail
 go_ret
 exact ⟨rfl, rfl⟩
end Go.Proofs.YtffdjnhhmfpkgaaGreat