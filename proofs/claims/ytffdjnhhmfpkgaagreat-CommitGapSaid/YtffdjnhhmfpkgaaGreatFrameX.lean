/- Contracts of the program's frames (frame), part two: framed, Kind, Open, Seal. -/
import Derived.Test.YtffdjnhhmfpkgaaGreatTz
import Derived.Test.YtffdjnhhmfpkgaaGreatRA
namespace Go.Proofs.YtffdjnhhmfpkgaaGreat
set_option maxRecDepth 1000000
set_option maxHeartbeats 8000000
open Go.RowKit
set_option linter.unusedVariables false
def RetErr (T : TypeId) (w : World) (bs : List UInt8) (n : Int) (e : Ending) (w' : World) : Prop :=
 ∃ A m c, e = .returned (.tuple #[.slice A m c, .int .i64 n]) ∧ w'.ownsRow w.heap.size T 1 (.slice A m c) m (bs.map bval) ∧ Below w.heap.size w w'
theorem RetErr.of {T : TypeId} {w w' : World} {bs : List UInt8} {n : Int} {A : Option Addr} {m c : Nat} (h : w'.ownsRow w.heap.size T 1 (.slice A m c) m (bs.map bval)) (hb : Below w.heap.size w w') : RetErr T w bs n (.returned (.tuple #[.slice A m c, .int .i64 n])) w' := ⟨A, m, c, rfl, h, hb⟩
theorem own_nil (w : World) (B : Nat) (T : TypeId) : w.ownsRow B T 1 (.slice none 0 0) 0 (([] : List UInt8).map bval) := ⟨rfl, .inl ⟨rfl, rfl⟩⟩
def CondR (bs : List UInt8) (n : Nat) (i : Value) : Prop :=
 (i = .int .i64 0) ∨ (i = .int .i64 1 ∧ n = 64) ∨ (i = .int .i64 2 ∧ n = 64 ∧ chkOk bs = true) ∨ (i = .int .i64 3 ∧ n = 64 ∧ chkOk bs = true ∧ nth bs 1 ≤ 58) ∨ (i = .int .i64 4 ∧ frOk bs = true)
def condF (g : Nat) : Array Value := #[.func (.func 129) #[] #[.pointer (some ⟨g, 0, none⟩)], .func (.func 130) #[] #[.pointer (some ⟨g, 0, none⟩)], .func (.func 132) #[] #[.pointer (some ⟨g, 0, none⟩)], .func (.func 133) #[] #[.pointer (some ⟨g, 0, none⟩)]]
def condZ : Array Value := Array.replicate 4 Value.nilFunc
theorem cond_info : (Tryz.prog.info? 163).map (fun i => (i.zero, i.size)) = some (some (.agg condZ), 4) := by kernel_rfl
theorem cond_size (g : Nat) : (Tryz.prog.info? 163).map (·.size) = some (condF g).size := (zero_of_info cond_info).2
theorem condF_one (g : Nat) : (condF g).all (·.oneCell') = true := by simp [condF, Value.oneCell']
theorem index_cond (cs : Array Value) (j : Nat) (hj : j < 4) (v : Value) (hv : cs[j]? = some v) (w : World) :
  (Instr.index 163 (.agg cs) (.int .i64 (j : Int))).run Tryz.prog w = .ok v w := by
 have h1 : (0 : Int) ≤ (j : Int) ∧ (j : Int) < 4 := by omega
 have hp : ∀ w, (part 39 cs j).run Tryz.prog w = .ok v w := fun w => by simp [part, isAgg, Sem.run_bind, run_underlying Tryz.underlying39, Result.andThen, hv]
 simp [Instr.index, Sem.run_bind, run_underlying Tryz.underlying163, Result.andThen, asIntOf, hj, hp]
theorem wFramed (A : Option Addr) (n c : Nat) (bs : List UInt8) (w : World) (ha : Rd w w.heap.size A n bs) (hc1 : n ≤ c) (hc2 : c ≤ 9223372036854775807) :
  Calls Tryz.prog 122 #[.slice A n c] w fun e w' => e = .returned (.bool (frOk bs)) ∧ Below w.heap.size w w' := by
 have hmf : ∀ (fn : Fn) (first cap : Array Value) (w : World), (Instr.makeFunc fn first cap).run Tryz.prog w = .ok (.func fn first cap) w := fun _ _ _ _ => rfl
 have hz := (zero_of_info cond_info).1
 have R := qH ha
 have HL := qH ha.1
 have C1 := qH hc1
 have C2 := qH hc2
 clear ha hc1 hc2
 go_enter Tryz.func122, Tryz.ntmps122
 have HS1 : Hid (w.heap.size + 1 = (w.alloc (.cells #[.slice A n c] 35)).heap.size) := by (show _ = _); simp
 go_wp2_with (first
  | (refine wpList_store_row rfl 163 _ _ rfl (w.heap.size + 1) (condF w.heap.size) rfl rfl 163 condZ (by simpa using heap_alloc_last (w.alloc (.cells #[.slice A n c] 35)) (.cells condZ 163)) (cond_size _) rfl (condF_one _) ?_; rw [HS1.out, World.setRow_alloc_new])
  | (refine wpList_load_row rfl 163 _ rfl (w.heap.size + 1) (by first | rfl | (rw [HS1.out]; rfl)) 163 (condF w.heap.size) (0, 0) _ (by simpa using heap_alloc_last (w.alloc (.cells #[.slice A n c] 35)) (.cells (condF w.heap.size) 163)) Tryz.underlying163 rfl (cond_size _) ?_))
 have B : Hid (Below w.heap.size w ((w.alloc (.cells #[.slice A n c] 35)).alloc (.cells (condF w.heap.size) 163))) := ((Below.refl w.heap.size w).alloc (Nat.le_refl _) _).alloc (by simp) _
 have C : Hid (((w.alloc (.cells #[.slice A n c] 35)).alloc (.cells (condF w.heap.size) 163)).cell? ⟨w.heap.size, 0, none⟩ = some (.slice A n c)) := by
  show _ = _
  rw [((Below.refl (w.alloc (.cells #[.slice A n c] 35)).heap.size _).alloc (Nat.le_refl _) _).cell (by simp), World.cell?_alloc_at _ _ _ _ (by rfl)]; rfl
 replace R := qH (R.out.to B.out)
 clear HS1 hz
 generalize (w.alloc (.cells #[.slice A n c] 35)).alloc (.cells (condF w.heap.size) 163) = w2 at *
 obtain ⟨g, hg⟩ : ∃ g, w.heap.size = g := ⟨_, rfl⟩
 rw [hg] at C ⊢
 have HG : Hid (w.heap.size = g) := hg
 clear hg
 go_loopw [12] (fun i wr => CondR bs n i ∧ Below w2.heap.size w2 wr) (fun i _ => (4 - intOf i).toNat)
 case atStart => exact ⟨.inl rfl, Below.refl _ _⟩
 case round =>
  obtain ⟨hi, hb⟩ := hrel
  have BR := qH hb
  have hc := (hb.cell (cell_lt C.out)).trans C.out
  have RR := qH (R.out.to hb)
  clear hb
  rcases hi with rfl | ⟨rfl, rfl⟩ | ⟨rfl, rfl, h2⟩ | ⟨rfl, rfl, h2, h3⟩ | ⟨rfl, hf⟩
  ·have hx : ∀ w, (Instr.index 163 (.agg (condF g)) (.int .i64 0)).run Tryz.prog w = .ok (.func (.func 129) #[] #[.pointer (some ⟨g, 0, none⟩)]) w := index_cond _ 0 (by decide) _ rfl
   by_cases h : n = 64
   ·subst h
    have hw := wCond1 g A 64 c wr hc
    rw [show decide (64 = 64) = true from rfl] at hw
    have HW := qH hw
    clear hw hc
    go_wp2_with fail
    refine (HW.out).mono ?_
    rintro e w' ⟨rfl, rfl⟩
    go_wp2_with fail
    go_roundw
    case rel => exact ⟨.inr (.inl ⟨rfl, rfl⟩), BR.out⟩
    case measure => simp [intOf]
   ·have hw := wCond1 g A n c wr hc
    rw [decide_eq_false h] at hw
    have HW := qH hw
    have HF : Hid (frOk bs = false) := frOk_len (by rw [HL.out]; exact h)
    clear hw hc h
    go_wp2_with fail
    refine (HW.out).mono ?_
    rintro e w' ⟨rfl, rfl⟩
    go_wp2_with fail
    go_ret
    exact ⟨by rw [HF.out]; rfl, B.out.trans (BR.out.mono B.out.size)⟩
  ·have hx : ∀ w, (Instr.index 163 (.agg (condF g)) (.int .i64 1)).run Tryz.prog w = .ok (.func (.func 130) #[] #[.pointer (some ⟨g, 0, none⟩)]) w := index_cond _ 1 (by decide) _ rfl
   have HW := qH (wCond2 g A c bs wr hc RR.out C1.out C2.out)
   cases h : chkOk bs
   ·have HF : Hid (frOk bs = false) := decide_eq_false fun hh => by rw [h] at hh; cases hh.2.1
    rw [h] at HW
    clear hc h
    go_wp2_with fail
    refine (HW.out).mono ?_
    rintro e w' ⟨rfl, hb⟩
    replace BR := qH (BR.out.trans (hb.mono BR.out.size))
    clear hb
    go_wp2_with fail
    go_ret
    exact ⟨by rw [HF.out]; rfl, B.out.trans (BR.out.mono B.out.size)⟩
   ·rw [h] at HW
    have H2 := qH h
    clear hc h
    go_wp2_with fail
    refine (HW.out).mono ?_
    rintro e w' ⟨rfl, hb⟩
    replace BR := qH (BR.out.trans (hb.mono BR.out.size))
    clear hb
    go_wp2_with fail
    go_roundw
    case rel => exact ⟨.inr (.inr (.inl ⟨rfl, rfl, H2.out⟩)), BR.out⟩
    case measure => simp [intOf]
  ·have hx : ∀ w, (Instr.index 163 (.agg (condF g)) (.int .i64 2)).run Tryz.prog w = .ok (.func (.func 132) #[] #[.pointer (some ⟨g, 0, none⟩)]) w := index_cond _ 2 (by decide) _ rfl
   have H2 := qH h2
   clear h2
   have HW := qH (wCond3 g A c bs wr hc RR.out)
   by_cases h : nth bs 1 ≤ 58
   ·rw [decide_eq_true h] at HW
    have H3 := qH h
    clear hc h
    go_wp2_with fail
    refine (HW.out).mono ?_
    rintro e w' ⟨rfl, rfl⟩
    go_wp2_with fail
    go_roundw
    case rel => exact ⟨.inr (.inr (.inr (.inl ⟨rfl, rfl, H2.out, H3.out⟩))), BR.out⟩
    case measure => simp [intOf]
   ·rw [decide_eq_false h] at HW
    have HF : Hid (frOk bs = false) := decide_eq_false fun hh => h hh.2.2.1
    clear hc h
    go_wp2_with fail
    refine (HW.out).mono ?_
    rintro e w' ⟨rfl, rfl⟩
    go_wp2_with fail
    go_ret
    exact ⟨by rw [HF.out]; rfl, B.out.trans (BR.out.mono B.out.size)⟩
  ·have hx : ∀ w, (Instr.index 163 (.agg (condF g)) (.int .i64 3)).run Tryz.prog w = .ok (.func (.func 133) #[] #[.pointer (some ⟨g, 0, none⟩)]) w := index_cond _ 3 (by decide) _ rfl
   have H2 := qH h2
   have H3 := qH h3
   clear h2 h3
   have HW := qH (wCond4 g A c bs wr hc RR.out C1.out C2.out H3.out)
   by_cases h : bs.take 60 = padTo (bs.take (2 + nth bs 1)) 60
   ·rw [decide_eq_true h] at HW
    have H4 : Hid (frOk bs = true) := decide_eq_true ⟨HL.out, H2.out, H3.out, h⟩
    clear hc h
    go_wp2_with fail
    refine (HW.out).mono ?_
    rintro e w' ⟨rfl, hb⟩
    replace BR := qH (BR.out.trans (hb.mono BR.out.size))
    clear hb
    go_wp2_with fail
    go_roundw
    case rel => exact ⟨.inr (.inr (.inr (.inr ⟨rfl, H4.out⟩))), BR.out⟩
    case measure => simp [intOf]
   ·rw [decide_eq_false h] at HW
    have HF : Hid (frOk bs = false) := decide_eq_false fun hh => h hh.2.2.2
    clear hc h
    go_wp2_with fail
    refine (HW.out).mono ?_
    rintro e w' ⟨rfl, hb⟩
    replace BR := qH (BR.out.trans (hb.mono BR.out.size))
    clear hb
    go_wp2_with fail
    go_ret
    exact ⟨by rw [HF.out]; rfl, B.out.trans (BR.out.mono B.out.size)⟩
  ·have HF : Hid (frOk bs = true) := hf
   clear hc hf
   go_wp2_with fail
   go_ret
   exact ⟨by rw [HF.out]; rfl, B.out.trans (BR.out.mono B.out.size)⟩
theorem wKind (A : Option Addr) (n c : Nat) (bs : List UInt8) (w : World) (ha : Rd w w.heap.size A n bs) (hc1 : n ≤ c) (hc2 : c ≤ 9223372036854775807) :
  Calls Tryz.prog 100 #[.slice A n c] w fun e w' => e = .returned (.tuple #[.int .u8 (kindOf bs : Int), .bool (frOk bs)]) ∧ Below w.heap.size w w' := by
 have HW := qH (wFramed A n c bs w ha hc1 hc2)
 have R := qH ha
 clear ha
 cases h : frOk bs
 ·have hk : kindOf bs = 0 := by unfold kindOf; rw [h]; rfl
  rw [hk]
  rw [h] at HW
  clear hk h
  go_enter Tryz.func100, Tryz.ntmps100
  go_wp2_with fail
  refine (HW.out).mono ?_
  rintro e w1 ⟨rfl, hb⟩
  have B := qH hb
  clear hb
  go_wp2_with fail
  go_ret2
  exact ⟨rfl, B.out⟩
 ·have hk : kindOf bs = nth bs 0 := by unfold kindOf; rw [h]; rfl
  rw [hk]
  rw [h] at HW
  obtain rfl : n = 64 := by rw [← R.out.1]; exact (frOk_parts h).1
  clear hk h
  go_enter Tryz.func100, Tryz.ntmps100
  go_wp2_with fail
  refine (HW.out).mono ?_
  rintro e w1 ⟨rfl, hb⟩
  have B := qH hb
  replace R := qH (R.out.to hb)
  clear hb HW
  obtain ⟨b, o, rfl, hbo, hcc⟩ := R.out.2 (by omega)
  have h0 : w1.cell? ⟨b, o, none⟩ = some (.int .u8 (nth bs 0 : Int)) := hcc 0 (by omega)
  clear hcc
  go_wp2_with fail
  go_ret2
  exact ⟨rfl, B.out⟩
end Go.Proofs.YtffdjnhhmfpkgaaGreat