/- Several texts in one (a claim has 60 files at most): CfR, CfU, CfP, CfS. -/
import Derived.Test.YtlmdidblgeeplaaGreatDoorTz
import Derived.Test.YtlmdidblgeeplaaGreatDoorPChPx
import Derived.Deep.Cut
import Derived.Test.YtlmdidblgeeplaaGreatDoorPWA
import Derived.Test.YtlmdidblgeeplaaGreatDoorPWB
import Derived.Deep.RegionHeld
namespace Go.Proofs.YtlmdidblgeeplaaGreatDoor
set_option maxRecDepth 1000000
set_option maxHeartbeats 8000000
set_option linter.unusedVariables false
set_option linter.unusedSimpArgs false
section
open Go.RowKit
def imgOk (p : Pt) : Bool := decide (p.img.length ≤ 512)
def canC (c : Cf) : Bool := c.ps.all imgOk && decide (c.ws.length ≤ 12) && decide (c.ps.length ≤ 6) && decide (c.cs.length ≤ 8)
theorem all_false_at {l : List Pt} {i : Nat} (h : i < l.length) (hi : imgOk (ptAt l i) = false) : l.all imgOk = false := by
 rw [List.all_eq_false]
 exact ⟨l[i], List.getElem_mem h, by rw [← ptAt_lt h, hi]; simp⟩
theorem all_true_of {l : List Pt} (h : ∀ j, j < l.length → imgOk (ptAt l j) = true) : l.all imgOk = true := by
 rw [List.all_eq_true]
 intro x hx
 obtain ⟨i, hi, rfl⟩ := List.getElem_of_mem hx
 rw [← ptAt_lt hi]; exact h i hi
theorem rCan (v : CV) (c : Cf) (w : World) (h : RdCf w w.heap.size v c) (hp : v.np ≤ 1000) :
  Calls Tryz.prog 30 #[.agg #[.slice v.aw v.nw v.kw, .slice v.ap v.np v.kp, .slice v.ac v.nc v.kc]] w fun x w' => x = .returned (.bool (canC c)) ∧ Below w.heap.size w w' := by
 have hb := (Below.refl w.heap.size w).alloc (Nat.le_refl _) (.cells #[.slice v.aw v.nw v.kw, .slice v.ap v.np v.kp, .slice v.ac v.nc v.kc] 28)
 have B := qH hb
 have X := qH (Cfx.new w v 28)
 have R := qH (h.to hb)
 have HW := qH h.ww.1
 have HP := qH h.pp.1
 have HC := qH h.cc.1
 have HN := qH hp
 clear h hb hp
 go_enter Tryz.func30, Tryz.ntmps30
 go_wp2_with fail
 generalize w.alloc (.cells #[.slice v.aw v.nw v.kw, .slice v.ap v.np v.kp, .slice v.ac v.nc v.kc] 28) = w1 at *
 obtain ⟨x0, x1, x2, _⟩ := X.out
 go_loopw [3] (fun s3 wr => ∃ k : Nat, k ≤ v.np ∧ s3 = .int .i64 (k : Int) ∧ wr = w1 ∧ ∀ j, j < k → imgOk (ptAt c.ps j) = true) (fun s3 _ => v.np - (intOf s3).toNat)
 case atStart => exact ⟨0, Nat.zero_le _, rfl, rfl, fun _ h => absurd h (Nat.not_lt_zero _)⟩
 case round =>
  obtain ⟨k, hk, rfl, rfl, hb⟩ := hrel
  have HB := qH hb
  clear hb
  by_cases hlt : k < v.np
  ·have hltI : (k : Int) < (v.np : Int) := by omega
   have HLT : Hid (k < v.np) := hlt
   have hwk : IntKind.i64.wrap ((k : Int) + 1) = (k : Int) + 1 := by have := HN.out; rw [IntKind.wrap_i64]; omega
   obtain ⟨bb, o, A', m, c', hA, y0, y1, y2, y3, y4, hr, _, _⟩ := R.out.pp.at_ hlt
   rw [hA] at x1 ⊢
   have HML := qH hr.1
   clear hr hk y0 y1 y2 y3
   by_cases hbig : 512 < m
   ·have hI : (m : Int) > 512 := by omega
    have HF : Hid (canC c = false) := by
     show _ = _
     unfold canC
     rw [all_false_at (i := k) (by rw [HP.out]; exact hlt) (by unfold imgOk; rw [HML.out]; exact decide_eq_false (by omega))]
     rfl
    go_wp2_with fail
    go_ret
    exact ⟨by rw [HF.out]; rfl, B.out⟩
   ·have hI : ¬ (m : Int) > 512 := by omega
    have HX : Hid (imgOk (ptAt c.ps k) = true) := by show _ = _; unfold imgOk; rw [HML.out]; exact decide_eq_true (by omega)
    clear hA
    go_wp2_with fail
    go_roundw
    case rel => exact ⟨k + 1, HLT.out, by go_num, by first | rfl | trivial, fun j hj => by
     rcases Nat.lt_succ_iff_lt_or_eq.1 hj with h | rfl
     ·exact HB.out j h
     ·exact HX.out⟩
    case measure => have := HLT.out; simp [intOf]; omega
  ·have hkn : k = v.np := by omega
   have hltI : ¬ (k : Int) < (v.np : Int) := by omega
   have HE : Hid (canC c = (decide (v.nw ≤ 12) && decide (v.np ≤ 6) && decide (v.nc ≤ 8))) := by
    show _ = _
    unfold canC
    rw [all_true_of (fun j hj => HB.out j (by rw [hkn, ← HP.out]; exact hj)), HW.out, HP.out, HC.out]
    rfl
   clear hk hlt hkn
   by_cases h1 : v.nw ≤ 12
   ·by_cases h2 : v.np ≤ 6
    ·by_cases h3 : v.nc ≤ 8
     ·have HZ : Hid (canC c = true) := by show _ = _; rw [HE.out, decide_eq_true h1, decide_eq_true h2, decide_eq_true h3]; rfl
      have i1 : (v.nw : Int) ≤ 12 := by omega
      have i2 : (v.np : Int) ≤ 6 := by omega
      have i3 : (v.nc : Int) ≤ 8 := by omega
      go_wp2_with fail
      go_ret
      exact ⟨by rw [HZ.out]; rfl, B.out⟩
     ·have HZ : Hid (canC c = false) := by show _ = _; rw [HE.out, decide_eq_false h3]; simp
      have i1 : (v.nw : Int) ≤ 12 := by omega
      have i2 : (v.np : Int) ≤ 6 := by omega
      have i3 : ¬ (v.nc : Int) ≤ 8 := by omega
      go_wp2_with fail
      go_ret
      exact ⟨by rw [HZ.out]; rfl, B.out⟩
    ·have HZ : Hid (canC c = false) := by show _ = _; rw [HE.out, decide_eq_false h2]; simp
     have i1 : (v.nw : Int) ≤ 12 := by omega
     have i2 : ¬ (v.np : Int) ≤ 6 := by omega
     go_wp2_with fail
     go_ret
     exact ⟨by rw [HZ.out]; rfl, B.out⟩
   ·have HZ : Hid (canC c = false) := by show _ = _; rw [HE.out, decide_eq_false h1]; simp
    have i1 : ¬ (v.nw : Int) ≤ 12 := by omega
    go_wp2_with fail
    go_ret
    exact ⟨by rw [HZ.out]; rfl, B.out⟩
def findP (l : List Pt) (id : Int) : Int := match l.findIdx? (fun p => p.id == id) with | some i => (i : Int) | none => -1
theorem findP_at {l : List Pt} {id : Int} {i : Nat} (h : i < l.length) (hb : ∀ j, j < i → (ptAt l j).id ≠ id) (hi : (ptAt l i).id = id) : findP l id = (i : Int) := by
 have e : l.findIdx? (fun p => p.id == id) = some i := by
  rw [List.findIdx?_eq_some_iff_getElem]
  refine ⟨h, ?_, fun j hj => ?_⟩
  ·rw [← ptAt_lt h, hi]; simp
  ·rw [← ptAt_lt (Nat.lt_trans hj h)]; simpa using hb j hj
 simp [findP, e]
theorem findP_none {l : List Pt} {id : Int} (hb : ∀ j, j < l.length → (ptAt l j).id ≠ id) : findP l id = -1 := by
 have : l.findIdx? (fun p => p.id == id) = none := by
  rw [List.findIdx?_eq_none_iff]
  intro x hx
  obtain ⟨i, hi, rfl⟩ := List.getElem_of_mem hx
  rw [← ptAt_lt hi]; simpa using hb i hi
 simp [findP, this]
theorem rPartOf (v : CV) (c : Cf) (id : Int) (w : World) (h : RdCf w w.heap.size v c) (hp : v.np ≤ 1000) :
  Calls Tryz.prog 177 #[.agg #[.slice v.aw v.nw v.kw, .slice v.ap v.np v.kp, .slice v.ac v.nc v.kc], .int .i64 id] w fun x w' => x = .returned (.int .i64 (findP c.ps id)) ∧ Below w.heap.size w w' := by
 have hb := (Below.refl w.heap.size w).alloc (Nat.le_refl _) (.cells #[.slice v.aw v.nw v.kw, .slice v.ap v.np v.kp, .slice v.ac v.nc v.kc] 28)
 have B := qH hb
 have X := qH (Cfx.new w v 28)
 have R := qH (h.to hb)
 have HP := qH h.pp.1
 have HN := qH hp
 clear h hb hp
 go_enter Tryz.func177, Tryz.ntmps177
 go_wp2_with fail
 generalize w.alloc (.cells #[.slice v.aw v.nw v.kw, .slice v.ap v.np v.kp, .slice v.ac v.nc v.kc] 28) = w1 at *
 obtain ⟨x0, x1, x2, _⟩ := X.out
 go_loopw [5] (fun s5 wr => ∃ k : Nat, k ≤ v.np ∧ s5 = .int .i64 (k : Int) ∧ wr = w1 ∧ ∀ j, j < k → (ptAt c.ps j).id ≠ id) (fun s5 _ => v.np - (intOf s5).toNat)
 case atStart => exact ⟨0, Nat.zero_le _, rfl, rfl, fun _ h => absurd h (Nat.not_lt_zero _)⟩
 case round =>
  obtain ⟨k, hk, rfl, rfl, hb⟩ := hrel
  have HB := qH hb
  clear hb
  by_cases hlt : k < v.np
  ·have hltI : (k : Int) < (v.np : Int) := by omega
   have HLT : Hid (k < v.np) := hlt
   have hwk : IntKind.i64.wrap ((k : Int) + 1) = (k : Int) + 1 := by have := HN.out; rw [IntKind.wrap_i64]; omega
   obtain ⟨bb, o, A', m, c', hA, y0, y1, y2, y3, y4, _, _, _⟩ := R.out.pp.at_ hlt
   rw [hA] at x1 ⊢
   clear hk hA
   obtain ⟨z, hz⟩ : ∃ z, (ptAt c.ps k).id = z := ⟨_, rfl⟩
   rw [hz] at y0
   by_cases hid : z = id
   ·subst hid
    have HF := qH (findP_at (l := c.ps) (i := k) (by rw [HP.out]; exact hlt) (fun j hj => HB.out j hj) hz)
    clear hz
    go_wp2_with fail
    go_ret
    exact ⟨by rw [HF.out]; rfl, B.out⟩
   ·have HX : Hid ((ptAt c.ps k).id ≠ id) := by show _ ≠ _; rw [hz]; exact hid
    clear hz
    go_wp2_with fail
    go_roundw
    case rel => exact ⟨k + 1, HLT.out, by go_num, by first | rfl | trivial, fun j hj => by
     rcases Nat.lt_succ_iff_lt_or_eq.1 hj with h | rfl
     ·exact HB.out j h
     ·exact HX.out⟩
    case measure => have := HLT.out; simp [intOf]; omega
  ·have hkn : k = v.np := by omega
   have hltI : ¬ (k : Int) < (v.np : Int) := by omega
   have HF := qH (findP_none (l := c.ps) (id := id) (fun j hj => HB.out j (by rw [hkn, ← HP.out]; exact hj)))
   clear hk hlt hkn
   go_wp2_with fail
   go_ret
   exact ⟨by rw [HF.out]; rfl, B.out⟩
theorem canC_iff {c : Cf} : canC c = true ↔ (∀ p ∈ c.ps, p.img.length ≤ 512) ∧ c.ws.length ≤ 12 ∧ c.ps.length ≤ 6 ∧ c.cs.length ≤ 8 := by
 simp only [canC, imgOk, Bool.and_eq_true, List.all_eq_true, decide_eq_true_eq, and_assoc]
end
section
open Go.RowKit
def winB (r : Reg) : List UInt8 := enc (u64N r.1) 8 ++ enc (u64N r.2) 8
def ptB (p : Pt) : List UInt8 := enc (u64N p.id) 8 ++ enc (u64N p.base) 8 ++ enc (u64N p.size) 8 ++ [flagB p.keep] ++ (enc p.img.length 4 ++ p.img)
def chN (c : Ch) : List Int := [c.id, c.fr, c.dst, c.cap, c.size]
def numsB (l : List Int) : List UInt8 := l.flatMap fun x => enc (u64N x) 8
def chB (c : Ch) : List UInt8 := numsB (chN c)
def countB (n : Nat) : List UInt8 := enc (u64N n) 8
def wsB (l : List Reg) (k : Nat) : List UInt8 := countB l.length ++ (l.take k).flatMap winB
def psB (l : List Pt) (k : Nat) : List UInt8 := countB l.length ++ (l.take k).flatMap ptB
def csB (l : List Ch) (k : Nat) : List UInt8 := countB l.length ++ (l.take k).flatMap chB
def formC (c : Cf) : List UInt8 := wsB c.ws c.ws.length ++ psB c.ps c.ps.length ++ csB c.cs c.cs.length
theorem flat_snoc {α : Type} (f : α → List UInt8) {l : List α} {k : Nat} (h : k < l.length) : (l.take (k + 1)).flatMap f = (l.take k).flatMap f ++ f l[k] := by
 rw [List.take_succ_eq_append_getElem h, List.flatMap_append]; simp
theorem flat_le {α : Type} (f : α → List UInt8) (m : Nat) : ∀ l : List α, (∀ x ∈ l, (f x).length ≤ m) → (l.flatMap f).length ≤ l.length * m
 | [], _ => by simp
 | a :: l, h => by
  have h1 := h a (by simp)
  have h2 := flat_le f m l fun x hx => h x (by simp [hx])
  rw [List.flatMap_cons, List.length_append, List.length_cons, Nat.add_mul]; omega
theorem wsB_zero (l : List Reg) : wsB l 0 = countB l.length := by simp [wsB]
theorem psB_zero (l : List Pt) : psB l 0 = countB l.length := by simp [psB]
theorem csB_zero (l : List Ch) : csB l 0 = countB l.length := by simp [csB]
theorem wsB_snoc {l : List Reg} {k : Nat} (h : k < l.length) : wsB l (k + 1) = wsB l k ++ winB (rat l k) := by
 rw [wsB, flat_snoc winB h, wsB, List.append_assoc]; congr 2; simp [rat, List.getD, List.getElem?_eq_getElem h]
theorem psB_snoc {l : List Pt} {k : Nat} (h : k < l.length) : psB l (k + 1) = psB l k ++ ptB (ptAt l k) := by
 rw [psB, flat_snoc ptB h, psB, List.append_assoc, ptAt_lt h]
theorem csB_snoc {l : List Ch} {k : Nat} (h : k < l.length) : csB l (k + 1) = csB l k ++ chB (chAt l k) := by
 rw [csB, flat_snoc chB h, csB, List.append_assoc, chAt_lt h]
theorem countB_len (n : Nat) : (countB n).length = 8 := enc_len _ _
theorem winB_len (r : Reg) : (winB r).length = 16 := by simp [winB, enc_len]
theorem ptB_len (p : Pt) : (ptB p).length = 29 + p.img.length := by simp [ptB, enc_len]; omega
theorem numsB_len (l : List Int) : (numsB l).length = l.length * 8 := by
 induction l with
 | nil => rfl
 | cons a l ih => rw [numsB, List.flatMap_cons, List.length_append, enc_len, List.length_cons]; have : (l.flatMap fun x => enc (u64N x) 8).length = l.length * 8 := ih; omega
theorem chB_len (c : Ch) : (chB c).length = 40 := by rw [chB, numsB_len]; rfl
theorem wsB_le (l : List Reg) (k : Nat) (h : l.length ≤ 12) : (wsB l k).length ≤ 200 := by
 have h1 := flat_le winB 16 (l.take k) fun x _ => by rw [winB_len]; exact Nat.le_refl _
 have h2 : (l.take k).length ≤ 12 := by rw [List.length_take]; omega
 rw [wsB, List.length_append, countB_len]; omega
theorem psB_le (l : List Pt) (k : Nat) (h : l.length ≤ 6) (hi : ∀ p ∈ l, p.img.length ≤ 512) : (psB l k).length ≤ 3254 := by
 have h1 := flat_le ptB 541 (l.take k) fun x hx => by have := hi x (List.mem_of_mem_take hx); rw [ptB_len]; omega
 have h2 : (l.take k).length ≤ 6 := by rw [List.length_take]; omega
 rw [psB, List.length_append, countB_len]; omega
theorem csB_le (l : List Ch) (k : Nat) (h : l.length ≤ 8) : (csB l k).length ≤ 328 := by
 have h1 := flat_le chB 40 (l.take k) fun x _ => by rw [chB_len]; exact Nat.le_refl _
 have h2 : (l.take k).length ≤ 8 := by rw [List.length_take]; omega
 rw [csB, List.length_append, countB_len]; omega
theorem formC_len {c : Cf} (h : canC c = true) : (formC c).length ≤ 3782 := by
 obtain ⟨hi, hw, hp, hc⟩ := canC_iff.1 h
 have h1 := wsB_le c.ws c.ws.length hw
 have h2 := psB_le c.ps c.ps.length hp hi
 have h3 := csB_le c.cs c.cs.length hc
 rw [formC, List.length_append, List.length_append]; omega
end
section
open Go.RowKit
structure Took (s : RS) (form : List UInt8) (s' : RS) : Prop where
 e : s.e = 0
 e' : s'.e = 0
 r : s.rest = form ++ s'.rest
theorem Took.trans {a b c : RS} {f g : List UInt8} (h : Took a f b) (h' : Took b g c) : Took a (f ++ g) c := ⟨h.e, h'.e', by rw [h.r, h'.r, List.append_assoc]⟩
theorem rs_next {s : RS} {n : Nat} (h : (s.next n).e = 0) : s.e = 0 ∧ n ≤ s.rest.length ∧ s.next n = ⟨s.rest.drop n, 0⟩ ∧ s.numb n = numOf (s.rest.take n) := by
 have hok : s.ok n = true := by
  by_cases hh : s.ok n = true
  ·exact hh
  ·unfold RS.next at h
   rw [if_neg hh] at h
   by_cases he : s.e = 0
   ·rw [if_pos he] at h; cases h
   ·rw [if_neg he] at h; exact absurd h he
 have h2 := hok
 unfold RS.ok at h2
 rw [Bool.and_eq_true, decide_eq_true_eq, decide_eq_true_eq] at h2
 exact ⟨h2.1, h2.2, by unfold RS.next; rw [if_pos hok], by unfold RS.numb; rw [if_pos hok]⟩
theorem rs_take {s : RS} {n : Nat} (h : (s.next n).e = 0) : Took s (s.rest.take n) (s.next n) := by
 obtain ⟨h1, h2, h3, _⟩ := rs_next h
 exact ⟨h1, h, by rw [h3]; exact (List.take_append_drop n s.rest).symm⟩
theorem rs_app {b tl : List UInt8} {n : Nat} (h : b.length = n) : (⟨b ++ tl, 0⟩ : RS).ok n = true ∧ (⟨b ++ tl, 0⟩ : RS).next n = ⟨tl, 0⟩ ∧ (⟨b ++ tl, 0⟩ : RS).numb n = numOf b ∧ (⟨b ++ tl, 0⟩ : RS).got n = b := by
 have hok : (⟨b ++ tl, 0⟩ : RS).ok n = true := by
  unfold RS.ok
  rw [decide_eq_true rfl, decide_eq_true (by rw [List.length_append]; omega)]; rfl
 refine ⟨hok, ?_, ?_, ?_⟩
 ·unfold RS.next
  rw [if_pos hok]
  simp only [RS.mk.injEq, and_true]
  exact List.drop_left' h
 ·unfold RS.numb
  rw [if_pos hok]
  show numOf ((b ++ tl).take n) = _
  rw [List.take_left' h]
 ·unfold RS.got
  rw [if_pos hok]
  exact List.take_left' h
theorem numOf_small {l : List UInt8} (h : l.length = 4 ∨ l.length = 8 ∨ l.length = 1) : numOf l = num l := by unfold numOf; rw [if_neg (by omega)]
theorem numOf_encT {y n : Nat} (hn : n = 4 ∨ n = 8) (hy : y < 256 ^ n) : numOf (enc y n) = y := by
 rw [numOf_small (by rw [enc_len]; omega), num_enc, Nat.mod_eq_of_lt hy]
theorem enc_numOf {l : List UInt8} {n : Nat} (hl : l.length = n) (hn : n = 4 ∨ n = 8) : enc (numOf l) n = l := by
 subst hl
 rw [numOf_small (by omega), enc_num]
theorem wrap_u64 {n : Int} (h1 : -9223372036854775808 ≤ n) (h2 : n ≤ 9223372036854775807) : wrap64 (u64N n : Int) = n := by
 rw [← u64N_eq]
 unfold wrap64
 omega
theorem u64_wrap (n : Nat) (h : n < 18446744073709551616) : u64N (wrap64 (n : Int)) = n := by
 have h1 := u64N_eq (wrap64 (n : Int))
 unfold wrap64 at h1 ⊢
 omega
theorem wrap64_in (x : Int) : -9223372036854775808 ≤ wrap64 x ∧ wrap64 x ≤ 9223372036854775807 := by unfold wrap64; omega
structure Codec {α : Type} (V : RS → α) (S : RS → RS) (B : α → List UInt8) (Ok : α → Prop) : Prop where
 whole : ∀ s, (S s).e = 0 → Took s (B (V s)) (S s) ∧ Ok (V s)
 back : ∀ x t, Ok x → V ⟨B x ++ t, 0⟩ = x ∧ S ⟨B x ++ t, 0⟩ = ⟨t, 0⟩
def inI (x : Int) : Prop := -9223372036854775808 ≤ x ∧ x ≤ 9223372036854775807
theorem codec_int : Codec intV (·.next 8) (fun x => enc (u64N x) 8) inI := by
 refine ⟨fun s h => ?_, fun x t h => ?_⟩
 ·have hT := rs_take h
  obtain ⟨h1, h2, h3, h4⟩ := rs_next h
  have hl : (s.rest.take 8).length = 8 := by simp; omega
  have e := enc_numOf hl (.inr rfl)
  have hlt : numOf (s.rest.take 8) < 18446744073709551616 := by
   rw [numOf_small (by omega)]
   have := num_lt (s.rest.take 8)
   rw [hl] at this
   omega
  refine ⟨?_, by unfold intV; exact wrap64_in _⟩
  show Took s (enc (u64N (intV s)) 8) _
  unfold intV
  rw [h4, u64_wrap _ hlt, e]
  exact hT
 ·obtain ⟨_, a2, a3, _⟩ := rs_app (b := enc (u64N x) 8) (tl := t) (enc_len _ _)
  refine ⟨?_, a2⟩
  unfold intV
  rw [a3, numOf_encT (.inr rfl) (u64N_lt x), wrap_u64 h.1 h.2]
theorem codec_flag : Codec (fun s => decide (s.numb 1 = 1)) flagS (fun b => [flagB b]) (fun _ => True) := by
 have one : ∀ x : UInt8, numOf [x] = x.toNat := fun x => by rw [numOf_small (by simp)]; simp [num]
 refine ⟨fun s h => ⟨?_, trivial⟩, fun b t _ => ?_⟩
 ·unfold flagS at h ⊢
  by_cases h1 : 1 < s.numb 1
  ·rw [if_pos h1] at h; cases h
  ·rw [if_neg h1] at h ⊢
   have hT := rs_take h
   obtain ⟨g1, g2, g3, g4⟩ := rs_next h
   match hr : s.rest, g2 with
   | x :: tl, _ =>
    rw [hr] at hT g4
    have e : s.numb 1 = x.toNat := by rw [g4]; exact one x
    have ex : flagB (decide (s.numb 1 = 1)) = x := by
     rw [e] at h1 ⊢
     have hx := UInt8.ofNat_toNat (x := x)
     rcases (show x.toNat = 0 ∨ x.toNat = 1 by omega) with h0 | h0
     ·rw [h0] at hx ⊢; rw [← hx]; rfl
     ·rw [h0] at hx ⊢; rw [← hx]; rfl
    show Took s [flagB (decide (s.numb 1 = 1))] _
    rw [ex]
    exact hT
 ·obtain ⟨_, a2, a3, _⟩ := rs_app (b := [flagB b]) (tl := t) (n := 1) rfl
  have e : (⟨[flagB b] ++ t, 0⟩ : RS).numb 1 = (flagB b).toNat := by rw [a3, one]
  refine ⟨?_, ?_⟩
  ·show decide ((⟨[flagB b] ++ t, 0⟩ : RS).numb 1 = 1) = b
   rw [e]; cases b <;> rfl
  ·unfold flagS
   rw [e, if_neg (by cases b <;> decide), a2]
theorem codec_bytes : Codec bytesV bytesS (fun b => enc b.length 4 ++ b) (fun b => b.length ≤ 65536) := by
 refine ⟨fun s h => ?_, fun b t hb => ?_⟩
 ·unfold bytesS at h ⊢
  unfold bytesV
  by_cases h1 : 65536 < s.numb 4
  ·rw [if_pos h1] at h; cases h
  ·rw [if_neg h1] at h ⊢
   rw [if_neg h1]
   obtain ⟨g1, g2, g3, g4⟩ := rs_next h
   have hT := rs_take g1
   obtain ⟨k1, k2, k3, k4⟩ := rs_next g1
   have hl : (s.rest.take 4).length = 4 := by simp; omega
   have hgot : (s.next 4).got (s.numb 4) = (s.next 4).rest.take (s.numb 4) := by
    unfold RS.got RS.ok
    rw [decide_eq_true g1, decide_eq_true g2]; rfl
   have hlen : ((s.next 4).rest.take (s.numb 4)).length = s.numb 4 := by simp; omega
   rw [hgot, hlen]
   refine ⟨?_, by omega⟩
   have e4 : enc (s.numb 4) 4 = s.rest.take 4 := by rw [k4]; exact enc_numOf hl (.inl rfl)
   rw [e4]
   exact hT.trans (rs_take h)
 ·have hlt : b.length < 256 ^ 4 := by omega
  have ea : (enc b.length 4 ++ b) ++ t = enc b.length 4 ++ (b ++ t) := List.append_assoc _ _ _
  show bytesV ⟨(enc b.length 4 ++ b) ++ t, 0⟩ = b ∧ bytesS ⟨(enc b.length 4 ++ b) ++ t, 0⟩ = ⟨t, 0⟩
  rw [ea]
  obtain ⟨_, a2, a3, _⟩ := rs_app (b := enc b.length 4) (tl := b ++ t) (enc_len _ _)
  obtain ⟨_, b2, _, b4⟩ := rs_app (b := b) (tl := t) rfl
  have e : (⟨enc b.length 4 ++ (b ++ t), 0⟩ : RS).numb 4 = b.length := by rw [a3, numOf_encT (.inl rfl) hlt]
  unfold bytesV bytesS
  rw [e, if_neg (by omega), if_neg (by omega), a2]
  exact ⟨b4, b2⟩
theorem Codec.pair {α β : Type} {V : RS → α} {S : RS → RS} {B : α → List UInt8} {Ok : α → Prop} {V' : RS → β} {S' : RS → RS} {B' : β → List UInt8} {Ok' : β → Prop} (h : Codec V S B Ok) (h' : Codec V' S' B' Ok') :
  Codec (fun s => (V s, V' (S s))) (fun s => S' (S s)) (fun p => B p.1 ++ B' p.2) (fun p => Ok p.1 ∧ Ok' p.2) := by
 refine ⟨fun s hs => ?_, fun p t hp => ?_⟩
 ·obtain ⟨a, b⟩ := h'.whole _ hs
  obtain ⟨a', b'⟩ := h.whole _ a.e
  exact ⟨a'.trans a, b', b⟩
 ·obtain ⟨a, b⟩ := h.back p.1 (B' p.2 ++ t) hp.1
  obtain ⟨a', b'⟩ := h'.back p.2 t hp.2
  have ea : (B p.1 ++ B' p.2) ++ t = B p.1 ++ (B' p.2 ++ t) := List.append_assoc _ _ _
  show (V ⟨(B p.1 ++ B' p.2) ++ t, 0⟩, V' (S ⟨(B p.1 ++ B' p.2) ++ t, 0⟩)) = p ∧ S' (S ⟨(B p.1 ++ B' p.2) ++ t, 0⟩) = ⟨t, 0⟩
  rw [ea, a, b, a', b']
  exact ⟨rfl, rfl⟩
theorem Codec.map {α β : Type} {V : RS → α} {S : RS → RS} {B : α → List UInt8} {Ok : α → Prop} (h : Codec V S B Ok) (f : α → β) (g : β → α) (hfg : ∀ x, f (g x) = x) (hgf : ∀ x, g (f x) = x) :
  Codec (fun s => f (V s)) S (fun y => B (g y)) (fun y => Ok (g y)) := by
 refine ⟨fun s hs => ?_, fun y t hy => ?_⟩
 ·obtain ⟨a, b⟩ := h.whole s hs
  show Took s (B (g (f (V s)))) _ ∧ Ok (g (f (V s)))
  rw [hgf]
  exact ⟨a, b⟩
 ·obtain ⟨a, b⟩ := h.back (g y) t hy
  show f (V ⟨B (g y) ++ t, 0⟩) = y ∧ _
  rw [a, b, hfg]
  exact ⟨rfl, rfl⟩
theorem Codec.is {α : Type} {V V' : RS → α} {S S' : RS → RS} {B B' : α → List UInt8} {Ok Ok' : α → Prop} (h : Codec V S B Ok) (hV : ∀ s, V' s = V s) (hS : ∀ s, S' s = S s) (hB : ∀ x, B' x = B x) (hO : ∀ x, Ok' x ↔ Ok x) : Codec V' S' B' Ok' := by
 obtain rfl : V' = V := funext hV
 obtain rfl : S' = S := funext hS
 obtain rfl : B' = B := funext hB
 exact ⟨fun s hs => ⟨(h.whole s hs).1, (hO _).2 (h.whole s hs).2⟩, fun x t hx => h.back x t ((hO _).1 hx)⟩
def manyR {α : Type} (V : RS → α) (S : RS → RS) : Nat → RS → List α × RS
 | 0, s => ([], s)
 | n + 1, s => ((manyR V S n s).1 ++ [V (manyR V S n s).2], S (manyR V S n s).2)
theorem manyR_len {α : Type} (V : RS → α) (S : RS → RS) (n : Nat) (s : RS) : (manyR V S n s).1.length = n := by
 induction n with
 | zero => rfl
 | succ n ih => simp [manyR, ih]
theorem Codec.many {α : Type} {V : RS → α} {S : RS → RS} {B : α → List UInt8} {Ok : α → Prop} (h : Codec V S B Ok) (n : Nat) : ∀ s, (manyR V S n s).2.e = 0 →
  (s.e = 0 ∧ s.rest = (manyR V S n s).1.flatMap B ++ (manyR V S n s).2.rest) ∧ ∀ x ∈ (manyR V S n s).1, Ok x := by
 induction n with
 | zero => exact fun s hs => ⟨⟨hs, rfl⟩, fun _ hx => by cases hx⟩
 | succ n ih =>
  intro s hs
  obtain ⟨a, b⟩ := h.whole _ hs
  obtain ⟨⟨c1, c2⟩, d⟩ := ih s a.e
  refine ⟨⟨c1, ?_⟩, fun x hx => ?_⟩
  ·rw [c2, a.r]
   simp [manyR]
  ·rcases List.mem_append.1 hx with hx | hx
   ·exact d x hx
   ·obtain rfl := List.mem_singleton.1 hx
    exact b
theorem manyR_app {α : Type} (V : RS → α) (S : RS → RS) (m : Nat) (s : RS) : ∀ n, manyR V S (m + n) s = ((manyR V S m s).1 ++ (manyR V S n (manyR V S m s).2).1, (manyR V S n (manyR V S m s).2).2) := by
 intro n
 induction n with
 | zero => simp [manyR]
 | succ n ih => rw [← Nat.add_assoc, manyR, ih]; simp [manyR]
theorem Codec.manyBack {α : Type} {V : RS → α} {S : RS → RS} {B : α → List UInt8} {Ok : α → Prop} (h : Codec V S B Ok) : ∀ (l : List α) (t : List UInt8), (∀ x ∈ l, Ok x) → manyR V S l.length ⟨l.flatMap B ++ t, 0⟩ = (l, ⟨t, 0⟩) := by
 intro l
 induction l with
 | nil => intro t _; rfl
 | cons x l ih =>
  intro t hl
  obtain ⟨a, b⟩ := h.back x (l.flatMap B ++ t) (hl x List.mem_cons_self)
  have e : ((x :: l).flatMap B ++ t) = B x ++ (l.flatMap B ++ t) := by simp
  have h1 : manyR V S 1 ⟨B x ++ (l.flatMap B ++ t), 0⟩ = ([x], ⟨l.flatMap B ++ t, 0⟩) := by
   show ([] ++ [V ⟨B x ++ (l.flatMap B ++ t), 0⟩], S ⟨B x ++ (l.flatMap B ++ t), 0⟩) = _
   rw [a, b]; rfl
  rw [List.length_cons, Nat.add_comm, manyR_app, e, h1, ih t (fun y hy => hl y (List.mem_cons_of_mem _ hy))]
  rfl
def listR {α : Type} (most : Nat) (V : RS → α) (S : RS → RS) (s : RS) : List α × RS := manyR V S (countV s (most : Int)).toNat (countS s (most : Int))
theorem count_range (s : RS) (most : Nat) : 0 ≤ countV s (most : Int) ∧ countV s (most : Int) ≤ (most : Int) := by
 unfold countV
 by_cases h : (countS s (most : Int)).e = 0
 ·rw [if_pos h]
  unfold countS at h
  by_cases hc : (s.next 8).e = 0 ∧ (intV s < 0 ∨ (most : Int) < intV s ∨ ((s.next 8).rest.length : Int) < intV s)
  ·rw [if_pos hc] at h; cases h
  ·rw [if_neg hc] at h
   have := fun hh => hc ⟨h, hh⟩
   omega
 ·rw [if_neg h]; omega
theorem count_whole {s : RS} {most : Nat} (h : (countS s (most : Int)).e = 0) : Took s (countB (countV s (most : Int)).toNat) (countS s (most : Int)) := by
 have hr := count_range s most
 have hv : countV s (most : Int) = intV s := by unfold countV; rw [if_pos h]
 have hS : countS s (most : Int) = s.next 8 := by
  unfold countS at h ⊢
  by_cases hc : (s.next 8).e = 0 ∧ (intV s < 0 ∨ (most : Int) < intV s ∨ ((s.next 8).rest.length : Int) < intV s)
  ·rw [if_pos hc] at h; cases h
  ·rw [if_neg hc]
 rw [hS] at h
 have h1 := (codec_int.whole s h).1
 have e : ((countV s (most : Int)).toNat : Int) = intV s := by omega
 unfold countB
 rw [e, hS]
 exact h1
theorem count_backN {n most : Nat} {t : List UInt8} (h : n ≤ most) (hm : most ≤ 1000) (ht : n ≤ t.length) : countV ⟨countB n ++ t, 0⟩ (most : Int) = (n : Int) ∧ countS ⟨countB n ++ t, 0⟩ (most : Int) = ⟨t, 0⟩ := by
 obtain ⟨a, b⟩ := codec_int.back (n : Int) t ⟨by omega, by omega⟩
 have b' : (⟨countB n ++ t, 0⟩ : RS).next 8 = ⟨t, 0⟩ := b
 have a' : intV ⟨countB n ++ t, 0⟩ = (n : Int) := a
 have e : countS ⟨countB n ++ t, 0⟩ (most : Int) = ⟨t, 0⟩ := by
  unfold countS
  rw [b', a', if_neg]
  rintro ⟨_, hh⟩
  simp only at hh
  omega
 refine ⟨?_, e⟩
 unfold countV
 rw [e, if_pos rfl, a']
theorem Codec.listWhole {α : Type} {V : RS → α} {S : RS → RS} {B : α → List UInt8} {Ok : α → Prop} (h : Codec V S B Ok) (most : Nat) (s : RS) (hs : (listR most V S s).2.e = 0) :
  Took s (countB (listR most V S s).1.length ++ (listR most V S s).1.flatMap B) (listR most V S s).2 ∧ (listR most V S s).1.length ≤ most ∧ ∀ x ∈ (listR most V S s).1, Ok x := by
 unfold listR at hs ⊢
 obtain ⟨⟨c1, c2⟩, d⟩ := h.many _ _ hs
 have hr := count_range s most
 have hw := count_whole c1
 rw [manyR_len]
 exact ⟨hw.trans ⟨c1, hs, c2⟩, by omega, d⟩
theorem flat_ge {α : Type} (f : α → List UInt8) : ∀ l : List α, (∀ x ∈ l, 1 ≤ (f x).length) → l.length ≤ (l.flatMap f).length
 | [], _ => Nat.zero_le _
 | x :: l, h => by
  have h1 := h x List.mem_cons_self
  have h2 := flat_ge f l fun y hy => h y (List.mem_cons_of_mem _ hy)
  simp only [List.flatMap_cons, List.length_append, List.length_cons]
  omega
theorem Codec.listBack {α : Type} {V : RS → α} {S : RS → RS} {B : α → List UInt8} {Ok : α → Prop} (h : Codec V S B Ok) (hB : ∀ x, 1 ≤ (B x).length) {most : Nat} (hm : most ≤ 1000) (l : List α) (t : List UInt8) (hl : l.length ≤ most) (ho : ∀ x ∈ l, Ok x) :
  listR most V S ⟨countB l.length ++ l.flatMap B ++ t, 0⟩ = (l, ⟨t, 0⟩) := by
 unfold listR
 have hg := flat_ge B l fun x _ => hB x
 have e : countB l.length ++ l.flatMap B ++ t = countB l.length ++ (l.flatMap B ++ t) := List.append_assoc _ _ _
 rw [e]
 obtain ⟨a, b⟩ := count_backN (n := l.length) (most := most) (t := l.flatMap B ++ t) hl hm (by rw [List.length_append]; omega)
 rw [a, b, Int.toNat_natCast]
 exact h.manyBack l t ho
def winV (s : RS) : Reg := (intV s, intV (s.next 8))
def winS (s : RS) : RS := (s.next 8).next 8
def inW (r : Reg) : Prop := inI r.1 ∧ inI r.2
theorem codec_win : Codec winV winS winB inW := codec_int.pair codec_int
def ptV (s : RS) : Pt := ⟨intV s, intV (s.next 8), intV ((s.next 8).next 8), decide ((((s.next 8).next 8).next 8).numb 1 = 1), bytesV (flagS (((s.next 8).next 8).next 8))⟩
def ptS (s : RS) : RS := bytesS (flagS (((s.next 8).next 8).next 8))
def inP (p : Pt) : Prop := inI p.id ∧ inI p.base ∧ inI p.size ∧ p.img.length ≤ 65536
theorem codec_pt : Codec ptV ptS ptB inP :=
 ((codec_int.pair (codec_int.pair (codec_int.pair (codec_flag.pair codec_bytes)))).map (fun x : Int × Int × Int × Bool × List UInt8 => (⟨x.1, x.2.1, x.2.2.1, x.2.2.2.1, x.2.2.2.2⟩ : Pt)) (fun p => (p.id, p.base, p.size, p.keep, p.img)) (fun _ => rfl) (fun _ => rfl)).is
  (fun _ => rfl) (fun _ => rfl) (fun p => by simp [ptB]) (fun p => by simp [inP])
def chV (s : RS) : Ch := ⟨intV s, intV (s.next 8), intV ((s.next 8).next 8), intV (((s.next 8).next 8).next 8), intV ((((s.next 8).next 8).next 8).next 8)⟩
def chS (s : RS) : RS := ((((s.next 8).next 8).next 8).next 8).next 8
def inCh (c : Ch) : Prop := inI c.id ∧ inI c.fr ∧ inI c.dst ∧ inI c.cap ∧ inI c.size
theorem codec_ch : Codec chV chS chB inCh :=
 ((codec_int.pair (codec_int.pair (codec_int.pair (codec_int.pair codec_int)))).map (fun x : Int × Int × Int × Int × Int => (⟨x.1, x.2.1, x.2.2.1, x.2.2.2.1, x.2.2.2.2⟩ : Ch)) (fun p => (p.id, p.fr, p.dst, p.cap, p.size)) (fun _ => rfl) (fun _ => rfl)).is
  (fun _ => rfl) (fun _ => rfl) (fun c => by simp [chB, numsB, chN]) (fun c => Iff.rfl)
def cfR (s : RS) : Cf × RS :=
 (⟨(listR 12 winV winS s).1, (listR 6 ptV ptS (listR 12 winV winS s).2).1, (listR 8 chV chS (listR 6 ptV ptS (listR 12 winV winS s).2).2).1⟩, (listR 8 chV chS (listR 6 ptV ptS (listR 12 winV winS s).2).2).2)
def inC (c : Cf) : Prop := (∀ r ∈ c.ws, inW r) ∧ (∀ p ∈ c.ps, inI p.id ∧ inI p.base ∧ inI p.size) ∧ ∀ x ∈ c.cs, inCh x
theorem formC_eq (c : Cf) : formC c = (countB c.ws.length ++ c.ws.flatMap winB) ++ ((countB c.ps.length ++ c.ps.flatMap ptB) ++ (countB c.cs.length ++ c.cs.flatMap chB)) := by
 simp [formC, wsB, psB, csB]
theorem cfR_parts {s : RS} {x : List Reg × RS} {y : List Pt × RS} {z : List Ch × RS} (h1 : Took s (countB x.1.length ++ x.1.flatMap winB) x.2 ∧ x.1.length ≤ 12 ∧ ∀ r ∈ x.1, inW r)
  (h2 : Took x.2 (countB y.1.length ++ y.1.flatMap ptB) y.2 ∧ y.1.length ≤ 6 ∧ ∀ r ∈ y.1, inP r) (h3 : Took y.2 (countB z.1.length ++ z.1.flatMap chB) z.2 ∧ z.1.length ≤ 8 ∧ ∀ r ∈ z.1, inCh r) :
  Took s (formC ⟨x.1, y.1, z.1⟩) z.2 ∧ inC ⟨x.1, y.1, z.1⟩ := by
 refine ⟨?_, h1.2.2, fun p hp => ⟨(h2.2.2 p hp).1, (h2.2.2 p hp).2.1, (h2.2.2 p hp).2.2.1⟩, h3.2.2⟩
 rw [formC_eq]
 exact h1.1.trans (h2.1.trans h3.1)
theorem cfR_whole {s : RS} (h : (cfR s).2.e = 0) : Took s (formC (cfR s).1) (cfR s).2 ∧ inC (cfR s).1 := by
 unfold cfR at h ⊢
 simp only at h ⊢
 have a3 := codec_ch.listWhole 8 _ h
 have a2 := codec_pt.listWhole 6 _ a3.1.e
 have a1 := codec_win.listWhole 12 _ a2.1.e
 exact cfR_parts a1 a2 a3
theorem cfR_back {c : Cf} (hc : canC c = true) (hi : inC c) (t : List UInt8) : cfR ⟨formC c ++ t, 0⟩ = (c, ⟨t, 0⟩) := by
 obtain ⟨h1, h2, h3, h4⟩ := canC_iff.1 hc
 have e : formC c ++ t = countB c.ws.length ++ c.ws.flatMap winB ++ ((countB c.ps.length ++ c.ps.flatMap ptB) ++ ((countB c.cs.length ++ c.cs.flatMap chB) ++ t)) := by rw [formC_eq]; simp only [List.append_assoc]
 unfold cfR
 rw [e]
 rw [codec_win.listBack (fun x => by rw [winB_len]; omega) (by omega) c.ws _ h2 hi.1]
 simp only
 rw [codec_pt.listBack (fun x => by rw [ptB_len]; omega) (by omega) c.ps _ h3 (fun p hp => ⟨(hi.2.1 p hp).1, (hi.2.1 p hp).2.1, (hi.2.1 p hp).2.2, by have := h1 p hp; omega⟩)]
 simp only
 rw [codec_ch.listBack (fun x => by rw [chB_len]; omega) (by omega) c.cs _ h4 hi.2.2]
theorem inI_wf {x : Int} (h : (Lit.int .i64 x).wf = true) : inI x := wf_i64 h
theorem inC_wf {c : Cf} (h : CfWf c) : inC c :=
 ⟨fun r hr => ⟨inI_wf (h.1 r hr).1, inI_wf (h.1 r hr).2⟩, fun p hp => ⟨inI_wf (h.2.1 p hp).1, inI_wf (h.2.1 p hp).2.1, inI_wf (h.2.1 p hp).2.2⟩, fun x hx => by
  obtain ⟨a, b, d, e, s⟩ := h.2.2 x hx
  exact ⟨a, b, d, e, s⟩⟩
def gotC (bs : List UInt8) : Cf := (cfR (newRS bs)).1
def okC (bs : List UInt8) : Bool := decide (endV (cfR (newRS bs)).2 = 0) && canC (gotC bs)
theorem okC_iff {bs : List UInt8} : okC bs = true ↔ ∃ c, bs = formC c ∧ canC c = true ∧ inC c ∧ gotC bs = c := by
 unfold okC
 rw [Bool.and_eq_true, decide_eq_true_eq]
 constructor
 ·rintro ⟨h1, h2⟩
  have he : (cfR (newRS bs)).2.e = 0 ∧ (cfR (newRS bs)).2.rest = [] := by
   unfold endV at h1
   by_cases hh : (cfR (newRS bs)).2.e = 0 ∧ 0 < (cfR (newRS bs)).2.rest.length
   ·rw [if_pos hh] at h1; cases h1
   ·rw [if_neg hh] at h1
    exact ⟨h1, List.eq_nil_of_length_eq_zero (Nat.eq_zero_of_not_pos fun h => hh ⟨h1, h⟩)⟩
  obtain ⟨a, b⟩ := cfR_whole he.1
  refine ⟨_, ?_, h2, b, rfl⟩
  have hr := a.r
  rw [he.2, List.append_nil] at hr
  have hn : newRS bs = ⟨bs, 0⟩ := by
   have := a.e
   unfold newRS at this ⊢
   by_cases hl : 65536 < bs.length
   ·rw [if_pos hl] at this; cases this
   ·rw [if_neg hl]
  rw [hn] at hr
  unfold gotC
  rw [hn]
  exact hr
 ·rintro ⟨c, rfl, hc, hi, hg⟩
  have hn : newRS (formC c) = ⟨formC c, 0⟩ := by
   unfold newRS
   rw [if_neg]
   have := formC_len hc
   omega
  have h := cfR_back hc hi []
  rw [List.append_nil] at h
  rw [hg]
  refine ⟨?_, hc⟩
  rw [hn, h]; rfl
theorem okC_form {c : Cf} (hc : canC c = true) (hi : inC c) : okC (formC c) = true ∧ gotC (formC c) = c := by
 have hn : newRS (formC c) = ⟨formC c, 0⟩ := by
  unfold newRS
  rw [if_neg]
  have := formC_len hc
  omega
 have h := cfR_back hc hi []
 rw [List.append_nil] at h
 have hg : gotC (formC c) = c := by unfold gotC; rw [hn, h]
 exact ⟨okC_iff.2 ⟨c, rfl, hc, hi, hg⟩, hg⟩
theorem okC_got {bs : List UInt8} (h : okC bs = true) : bs = formC (gotC bs) ∧ canC (gotC bs) = true ∧ inC (gotC bs) := by
 obtain ⟨c, h1, h2, h3, h4⟩ := okC_iff.1 h
 rw [h4]; exact ⟨h1, h2, h3⟩
end
section
open Go.RowKit
def eqR (x y : Reg) : Bool := decide (x = y)
theorem eqR_iff {x y : Reg} : eqR x y = true ↔ x = y := by simp [eqR]
theorem cfWin_guard : Tryz.prog.eqGuardType Tryz.prog.depth 82 = false := by kernel_rfl
theorem cfWin_eq (a b a' b' : Int) (w : World) : (Op.equalIn 10000 82 (.agg #[.int .i64 a, .int .i64 b]) (.agg #[.int .i64 a', .int .i64 b'])).run Tryz.prog w = .ok (eqR (a, b) (a', b')) w := by
 unfold eqR
 have hS : Tryz.prog.underlying 82 = some (.struct (Tryz.prog.fieldsOf 82)) := by kernel_rfl
 have hp : Tryz.prog.stoodInHeld 82 = false := by kernel_rfl
 have u3 := Tryz.underlying3
 have a3 := Tryz.isAgg3
 have z3 := Tryz.sizeOf3
 rw [show (10000 : Nat) = 9999 + 1 from rfl, run_equalIn_agg w 9999 82 _ _ hS hp]
 simp only [Program.fieldsOf, Tryz.underlying82]
 go_simp
 by_cases h1 : a = a' <;> by_cases h2 : b = b' <;> simp [h1, h2]
theorem cfReg_guard : Tryz.prog.eqGuardType Tryz.prog.depth 56 = false := by kernel_rfl
theorem cfReg_eq (a b a' b' : Int) (w : World) : (Op.equalIn 10000 56 (.agg #[.int .i64 a, .int .i64 b]) (.agg #[.int .i64 a', .int .i64 b'])).run Tryz.prog w = .ok (eqR (a, b) (a', b')) w := by
 unfold eqR
 have hS : Tryz.prog.underlying 56 = some (.struct (Tryz.prog.fieldsOf 56)) := by kernel_rfl
 have hp : Tryz.prog.stoodInHeld 56 = false := by kernel_rfl
 have u3 := Tryz.underlying3
 have a3 := Tryz.isAgg3
 have z3 := Tryz.sizeOf3
 rw [show (10000 : Nat) = 9999 + 1 from rfl, run_equalIn_agg w 9999 56 _ _ hS hp]
 simp only [Program.fieldsOf, Tryz.underlying56]
 go_simp
 by_cases h1 : a = a' <;> by_cases h2 : b = b' <;> simp [h1, h2]
def eqCh (x y : Ch) : Bool := decide (x = y)
theorem eqCh_iff {x y : Ch} : eqCh x y = true ↔ x = y := by simp [eqCh]
theorem cfCh_guard : Tryz.prog.eqGuardType Tryz.prog.depth 130 = false := by kernel_rfl
theorem cfCh_eq (a b d e s a' b' d' e' s' : Int) (w : World) : (Op.equalIn 10000 130 (.agg #[.int .i64 a, .int .i64 b, .int .i64 d, .int .i64 e, .int .i64 s]) (.agg #[.int .i64 a', .int .i64 b', .int .i64 d', .int .i64 e', .int .i64 s'])).run Tryz.prog w = .ok (eqCh ⟨a, b, d, e, s⟩ ⟨a', b', d', e', s'⟩) w := by
 unfold eqCh
 have hS : Tryz.prog.underlying 130 = some (.struct (Tryz.prog.fieldsOf 130)) := by kernel_rfl
 have hp : Tryz.prog.stoodInHeld 130 = false := by kernel_rfl
 have u3 := Tryz.underlying3
 have a3 := Tryz.isAgg3
 have z3 := Tryz.sizeOf3
 rw [show (10000 : Nat) = 9999 + 1 from rfl, run_equalIn_agg w 9999 130 _ _ hS hp]
 simp only [Program.fieldsOf, Tryz.underlying130]
 go_simp
 by_cases h1 : a = a' <;> by_cases h2 : b = b' <;> by_cases h3 : d = d' <;> by_cases h4 : e = e' <;> by_cases h5 : s = s' <;> simp [h1, h2, h3, h4, h5]
def samePt (p q : Pt) : Bool := decide (p = q)
theorem samePt_iff {p q : Pt} : samePt p q = true ↔ p = q := by simp [samePt]
structure Ptx (w : World) (g : Nat) (i b s : Int) (k : Bool) (A : Option Addr) (m c : Nat) : Prop where
 c0 : w.cell? ⟨g, 0, none⟩ = some (.int .i64 i)
 c1 : w.cell? ⟨g, 1, none⟩ = some (.int .i64 b)
 c2 : w.cell? ⟨g, 2, none⟩ = some (.int .i64 s)
 c3 : w.cell? ⟨g, 3, none⟩ = some (.bool k)
 c4 : w.cell? ⟨g, 4, none⟩ = some (.slice A m c)
 lt : g < w.heap.size
theorem Ptx.to {w w' : World} {g : Nat} {i b s : Int} {k : Bool} {A : Option Addr} {m c : Nat} (h : Ptx w g i b s k A m c) (hb : Below w.heap.size w w') : Ptx w' g i b s k A m c :=
 ⟨(hb.cell h.lt).trans h.c0, (hb.cell h.lt).trans h.c1, (hb.cell h.lt).trans h.c2, (hb.cell h.lt).trans h.c3, (hb.cell h.lt).trans h.c4, Nat.lt_of_lt_of_le h.lt hb.size⟩
theorem Ptx.new (w : World) (i b s : Int) (k : Bool) (A : Option Addr) (m c : Nat) (T : TypeId) : Ptx (w.alloc (.cells #[.int .i64 i, .int .i64 b, .int .i64 s, .bool k, .slice A m c] T)) w.heap.size i b s k A m c := ⟨by simp, by simp, by simp, by simp, by simp, by simp⟩
theorem rSamePt (i b s i' b' s' : Int) (k k' : Bool) (A A' : Option Addr) (m c m' c' : Nat) (im im' : List UInt8) (w : World) (h : Rd w w.heap.size A m im) (h' : Rd w w.heap.size A' m' im') :
  Calls Tryz.prog 112 #[.agg #[.int .i64 i, .int .i64 b, .int .i64 s, .bool k, .slice A m c], .agg #[.int .i64 i', .int .i64 b', .int .i64 s', .bool k', .slice A' m' c']] w fun x w' =>
   x = .returned (.bool (samePt ⟨i, b, s, k, im⟩ ⟨i', b', s', k', im'⟩)) ∧ Below w.heap.size w w' := by
 have hgd := cfReg_guard
 have heq := cfReg_eq
 have B1 := (Below.refl w.heap.size w).alloc (Nat.le_refl _) (.cells #[.int .i64 i, .int .i64 b, .int .i64 s, .bool k, .slice A m c] 58)
 have P1 := Ptx.new w i b s k A m c 58
 have S1 : (w.alloc (.cells #[.int .i64 i, .int .i64 b, .int .i64 s, .bool k, .slice A m c] 58)).heap.size = w.heap.size + 1 := by simp
 generalize hw1 : (w.alloc (.cells #[.int .i64 i, .int .i64 b, .int .i64 s, .bool k, .slice A m c] 58)) = w1 at *
 have B2 := B1.alloc B1.size (.cells #[.int .i64 i', .int .i64 b', .int .i64 s', .bool k', .slice A' m' c'] 58)
 have P2 := Ptx.new w1 i' b' s' k' A' m' c' 58
 have P12 := P1.to ((Below.refl _ _).alloc (Nat.le_refl _) (.cells #[.int .i64 i', .int .i64 b', .int .i64 s', .bool k', .slice A' m' c'] 58))
 rw [S1] at P2
 have P := qH P12
 have Q := qH P2
 have R := qH (h.to B2)
 have R' := qH (h'.to B2)
 have B := qH B2
 have HW1 := qH hw1
 clear B1 P1 S1 B2 P2 P12 h h' hw1
 go_enter Tryz.func112, Tryz.ntmps112
 go_upto_region 1 with (fail)
 rw [HW1.out]
 generalize (w1.alloc (.cells #[.int .i64 i', .int .i64 b', .int .i64 s', .bool k', .slice A' m' c'] 58)) = w2 at *
 clear HW1
 obtain ⟨x0, x1, x2, x3, x4, _⟩ := P.out
 obtain ⟨y0, y1, y2, y3, y4, _⟩ := Q.out
 by_cases hi : i = i'
 rotate_left 1
 ·have HF : Hid (false = samePt ⟨i, b, s, k, im⟩ ⟨i', b', s', k', im'⟩) := by show _ = _; unfold samePt; rw [decide_eq_false (fun e => hi (by injection e))]
  go_wp2_with fail
  go_ret
  exact ⟨ret_bool HF.out, B.out⟩
 subst hi
 cases hr : eqR (b, s) (b', s')
 ·have HF : Hid (false = samePt ⟨i, b, s, k, im⟩ ⟨i, b', s', k', im'⟩) := by
   show _ = _
   unfold samePt
   rw [decide_eq_false (fun e => ?_)]
   injection e with _ e1 e2 _ _
   have := eqR_iff.2 (show (b, s) = (b', s') by rw [e1, e2])
   rw [hr] at this; cases this
  go_wp2_with fail
  go_ret
  exact ⟨ret_bool HF.out, B.out⟩
 have HR := qH (eqR_iff.1 hr)
 by_cases hk : k = k'
 rotate_left 1
 ·have HF : Hid (false = samePt ⟨i, b, s, k, im⟩ ⟨i, b', s', k', im'⟩) := by show _ = _; unfold samePt; rw [decide_eq_false (fun e => hk (by injection e))]
  have hkb : (k == k') = false := by simpa using hk
  clear hk
  go_wp2_with fail
  go_ret
  exact ⟨ret_bool HF.out, B.out⟩
 subst hk
 have hc1 := R.out.conv c 31 5 9 Tryz.underlying31 Tryz.underlying5 Tryz.underlying9
 have hc2 := R'.out.conv c' 31 5 9 Tryz.underlying31 Tryz.underlying5 Tryz.underlying9
 have E1 : Hid ((strOfNums (numsOf im)).toList = im) := by show _ = _; rw [Lib.strOfNums_toList, bytesOf_numsOf]
 have E2 : Hid ((strOfNums (numsOf im')).toList = im') := by show _ = _; rw [Lib.strOfNums_toList, bytesOf_numsOf]
 generalize strOfNums (numsOf im) = s1 at *
 generalize strOfNums (numsOf im') = s2 at *
 have HF : Hid ((s1.toList == s2.toList) = samePt ⟨i, b, s, k, im⟩ ⟨i, b', s', k, im'⟩) := by
  show _ = _
  rw [E1.out, E2.out]
  have := HR.out
  simp only [Prod.mk.injEq] at this
  unfold samePt
  rw [this.1, this.2]
  by_cases he : im = im' <;> simp [he]
 go_wp2_with fail
 go_ret
 exact ⟨ret_bool HF.out, B.out⟩
end
end Go.Proofs.YtlmdidblgeeplaaGreatDoor