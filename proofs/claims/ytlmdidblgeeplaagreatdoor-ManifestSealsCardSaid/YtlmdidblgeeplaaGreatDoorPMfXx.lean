/- Several texts in one (a claim has 60 files at most): CfQ, CfOn, VaS, MfX. -/
import Derived.Test.YtlmdidblgeeplaaGreatDoorTz
import Derived.Test.YtlmdidblgeeplaaGreatDoorPChPx
import Derived.Test.YtlmdidblgeeplaaGreatDoorPCfSx
import Derived.Deep.Cut
import Derived.Test.YtlmdidblgeeplaaGreatDoorPCfLcx
import Derived.Test.YtlmdidblgeeplaaGreatDoorPCfWrx
namespace Go.Proofs.YtlmdidblgeeplaaGreatDoor
set_option maxRecDepth 1000000
set_option maxHeartbeats 8000000
set_option linter.unusedVariables false
set_option linter.unusedSimpArgs false
section
open Go.RowKit
theorem enter_of {P : Program} {f : FuncId} {fn : Func} {c : Code} (hf : P.funcs[f]? = some fn) (hname : (fn.name == "runtime.NumGoroutine") = false) (hb : fn.body = some c) (args : Array Value) (w : World) :
  (callFunc f args).run P w = .ok (.enter f args) w := by
 have h1 : fn.name ≠ "runtime.NumGoroutine" := by simpa using hname
 simp [callFunc, hf, h1, hb]
def idxB (p : Nat → Bool) (n : Nat) : Int := match (List.range n).findIdx? p with | some i => (i : Int) | none => -1
theorem idxB_at {p : Nat → Bool} {n k : Nat} (h : k < n) (hb : ∀ j, j < k → p j = false) (hk : p k = true) : idxB p n = (k : Int) := by
 have e : (List.range n).findIdx? p = some k := by
  rw [List.findIdx?_eq_some_iff_getElem]
  refine ⟨by simpa using h, by simpa using hk, fun j hj => by simpa using hb j hj⟩
 unfold idxB
 rw [e]
theorem idxB_none {p : Nat → Bool} {n : Nat} (hb : ∀ j, j < n → p j = false) : idxB p n = -1 := by
 have e : (List.range n).findIdx? p = none := by
  rw [List.findIdx?_eq_none_iff]
  intro x hx
  simpa using hb x (List.mem_range.1 hx)
 unfold idxB
 rw [e]
theorem idxB_cases (p : Nat → Bool) (n : Nat) : (∃ k, k < n ∧ (∀ j, j < k → p j = false) ∧ p k = true ∧ idxB p n = (k : Int)) ∨ ((∀ j, j < n → p j = false) ∧ idxB p n = -1) := by
 induction n with
 | zero => exact .inr ⟨fun _ h => absurd h (Nat.not_lt_zero _), idxB_none fun _ h => absurd h (Nat.not_lt_zero _)⟩
 | succ n ih =>
  rcases ih with ⟨k, h1, h2, h3, _⟩ | ⟨h1, _⟩
  ·exact .inl ⟨k, by omega, h2, h3, idxB_at (by omega) h2 h3⟩
  ·cases hp : p n with
   | true => exact .inl ⟨n, by omega, h1, hp, idxB_at (by omega) h1 hp⟩
   | false =>
    have h : ∀ j, j < n + 1 → p j = false := fun j hj => by
     rcases Nat.lt_or_ge j n with g | g
     ·exact h1 j g
     ·obtain rfl : j = n := by omega
      exact hp
    exact .inr ⟨h, idxB_none h⟩
def PredP (w : World) (g : FuncId) (lb : Array Value) (n : Nat) (l : List Pt) (p : Nat → Bool) : Prop :=
 ∀ k, k < n → ∀ (A : Option Addr) (m c : Nat) (W : World), Below w.heap.size w W → Rd W W.heap.size A m (ptAt l k).img → Calls Tryz.prog g (#[.agg #[.int .i64 (ptAt l k).id, .int .i64 (ptAt l k).base, .int .i64 (ptAt l k).size, .bool (ptAt l k).keep, .slice A m c]] ++ lb) W fun e w' => e = .returned (.bool (p k)) ∧ Below W.heap.size W w'
def PredC (w : World) (g : FuncId) (lb : Array Value) (n : Nat) (l : List Ch) (p : Nat → Bool) : Prop :=
 ∀ k, k < n → ∀ W : World, Below w.heap.size w W → Calls Tryz.prog g (#[.agg #[.int .i64 (chAt l k).id, .int .i64 (chAt l k).fr, .int .i64 (chAt l k).dst, .int .i64 (chAt l k).cap, .int .i64 (chAt l k).size]] ++ lb) W fun e w' => e = .returned (.bool (p k)) ∧ Below W.heap.size W w'
theorem wIndexP (g : FuncId) (lb : Array Value) (eg : ∀ args w, (callFunc g args).run Tryz.prog w = .ok (.enter g args) w) (p : Nat → Bool) (A : Option Addr) (n c : Nat) (l : List Pt) (w : World)
  (hp : PredP w g lb n l p) (h : RdP w w.heap.size A n l) (hn : n ≤ 1000) :
  Calls Tryz.prog 141 #[.slice A n c, .func (.func g) #[] lb] w fun e w' => e = .returned (.int .i64 (idxB p n)) ∧ Below w.heap.size w w' := by
 have R := qH h
 have HP := qH hp
 have HN := qH hn
 clear h hp hn
 go_enter Tryz.func141, Tryz.ntmps141
 go_wp2_with fail
 go_loopw [5, 8] (fun s5 s8 wr => ∃ k : Nat, k ≤ n ∧ s8 = .int .i64 (k : Int) ∧ Below w.heap.size w wr ∧ ∀ j, j < k → p j = false) (fun _ s8 _ => n - (intOf s8).toNat)
 case atStart => exact ⟨0, Nat.zero_le _, rfl, Below.refl _ _, fun _ h => absurd h (Nat.not_lt_zero _)⟩
 case round =>
  obtain ⟨k, hk, rfl, hb, hno⟩ := hrel
  have B := qH hb
  have NO := qH hno
  have HK := qH hk
  clear hb hno hk
  by_cases hlt : k < n
  ·have hltI : (k : Int) < (n : Int) := by omega
   have hwk : IntKind.i64.wrap ((k : Int) + 1) = (k : Int) + 1 := by have := HN.out; rw [IntKind.wrap_i64]; omega
   have HLT : Hid (k < n) := hlt
   obtain ⟨bb, o, A', m, c', hA, z0, z1, z2, z3, z4, hrd, _, _⟩ := (R.out.to B.out).at_ hlt
   have HRD := qH hrd
   rw [hA]
   clear hrd
   go_wp2_with fail
   refine (HP.out k HLT.out A' m c' wr B.out HRD.out).mono ?_
   rintro e w1 ⟨rfl, hb1⟩
   have B1 := qH (B.out.trans (hb1.mono B.out.size))
   clear hb1 z0 z1 z2 z3 z4
   cases hpk : p k
   ·have HPK := qH hpk
    clear hpk
    go_wp2_with fail
    go_roundw
    case rel => exact ⟨k + 1, HLT.out, by go_num, B1.out, fun j hj => by
     rcases Nat.lt_or_ge j k with g | g
     ·exact NO.out j g
     ·obtain rfl : j = k := by omega
      exact HPK.out⟩
    case measure => simp [intOf]; omega
   ·have HPK := qH hpk
    clear hpk
    go_wp2_with fail
    go_ret
    exact ⟨by rw [idxB_at HLT.out NO.out HPK.out]; rfl, B1.out⟩
  ·obtain rfl : k = n := by have := HK.out; omega
   go_wp2_with fail
   go_ret
   exact ⟨by rw [idxB_none NO.out]; rfl, B.out⟩
theorem wIndexC (g : FuncId) (lb : Array Value) (eg : ∀ args w, (callFunc g args).run Tryz.prog w = .ok (.enter g args) w) (p : Nat → Bool) (A : Option Addr) (n c : Nat) (l : List Ch) (w : World)
  (hp : PredC w g lb n l p) (h : RdC w w.heap.size A n l) (hn : n ≤ 1000) :
  Calls Tryz.prog 216 #[.slice A n c, .func (.func g) #[] lb] w fun e w' => e = .returned (.int .i64 (idxB p n)) ∧ Below w.heap.size w w' := by
 have R := qH h
 have HP := qH hp
 have HN := qH hn
 clear h hp hn
 go_enter Tryz.func216, Tryz.ntmps216
 go_wp2_with fail
 go_loopw [5, 8] (fun s5 s8 wr => ∃ k : Nat, k ≤ n ∧ s8 = .int .i64 (k : Int) ∧ Below w.heap.size w wr ∧ ∀ j, j < k → p j = false) (fun _ s8 _ => n - (intOf s8).toNat)
 case atStart => exact ⟨0, Nat.zero_le _, rfl, Below.refl _ _, fun _ h => absurd h (Nat.not_lt_zero _)⟩
 case round =>
  obtain ⟨k, hk, rfl, hb, hno⟩ := hrel
  have B := qH hb
  have NO := qH hno
  have HK := qH hk
  clear hb hno hk
  by_cases hlt : k < n
  ·have hltI : (k : Int) < (n : Int) := by omega
   have hwk : IntKind.i64.wrap ((k : Int) + 1) = (k : Int) + 1 := by have := HN.out; rw [IntKind.wrap_i64]; omega
   have HLT : Hid (k < n) := hlt
   obtain ⟨bb, o, hA, z0, z1, z2, z3, z4⟩ := (R.out.to B.out).at_ hlt
   rw [hA]
   go_wp2_with fail
   refine (HP.out k HLT.out wr B.out).mono ?_
   rintro e w1 ⟨rfl, hb1⟩
   have B1 := qH (B.out.trans (hb1.mono B.out.size))
   clear hb1 z0 z1 z2 z3 z4
   cases hpk : p k
   ·have HPK := qH hpk
    clear hpk
    go_wp2_with fail
    go_roundw
    case rel => exact ⟨k + 1, HLT.out, by go_num, B1.out, fun j hj => by
     rcases Nat.lt_or_ge j k with g | g
     ·exact NO.out j g
     ·obtain rfl : j = k := by omega
      exact HPK.out⟩
    case measure => simp [intOf]; omega
   ·have HPK := qH hpk
    clear hpk
    go_wp2_with fail
    go_ret
    exact ⟨by rw [idxB_at HLT.out NO.out HPK.out]; rfl, B1.out⟩
  ·obtain rfl : k = n := by have := HK.out; omega
   go_wp2_with fail
   go_ret
   exact ⟨by rw [idxB_none NO.out]; rfl, B.out⟩
end
section
open Go.RowKit
theorem own_oneV {w : World} {g B z : Nat} {U : TypeId} {xs : List Value} (h : Bx w g U xs) (hl : xs.length = z) (hB : B ≤ g) : w.ownsRow B U z (.slice (some ⟨g, 0, none⟩) 1 1) 1 xs := by
 have h' : w.heap[g]? = some (.cells xs.toArray U (0, 0)) := h
 refine ⟨by omega, .inr ⟨g, 1, xs.toArray, rfl, hB, h', Nat.le_refl _, by unfold maxLen; omega, by simp [hl], ?_⟩⟩
 show xs.take (1 * z) = xs
 rw [List.take_of_length_le (by omega)]
theorem rd_ww {w : World} {g : Nat} {a b : Int} (h : Bx w g 82 [.int .i64 a, .int .i64 b]) : RdG w w.heap.size (some ⟨g, 0, none⟩) 1 [(a, b)] :=
 RdG.of_ownV (B := 0) (own_oneV h rfl (Nat.zero_le _))
def qp0 (id base size : Int) (keep : Bool) : QP := ⟨⟨id, base, size, keep, []⟩, none, 0, 0⟩
theorem img0 (w : World) (B : Nat) (id base size : Int) (keep : Bool) : Img w B (qp0 id base size keep) :=
 ⟨⟨Rd.nil _ _ _, fun h => absurd h (Nat.lt_irrefl 0)⟩, Nat.le_refl _, (show (0 : Nat) ≤ 9223372036854775807 by decide), (show (0 : Nat) ≤ 140737488351232 by decide)⟩
theorem own_pp {w : World} {g B : Nat} {id base size : Int} {keep : Bool} (h : Bx w g 58 [.int .i64 id, .int .i64 base, .int .i64 size, .bool keep, .slice none 0 0]) (hB : B ≤ g) :
  OwnP w B (.slice (some ⟨g, 0, none⟩) 1 1) [qp0 id base size keep] := by
 refine ⟨own_oneV h rfl hB, fun q hq => ?_, fun q hq b hb => ?_⟩
 ·obtain rfl := List.mem_singleton.1 hq
  exact img0 _ _ _ _ _ _
 ·obtain rfl := List.mem_singleton.1 hq
  exact fun h => absurd h (Nat.lt_irrefl 0)
theorem rd_pp {w : World} {g : Nat} {id base size : Int} {keep : Bool} (h : Bx w g 58 [.int .i64 id, .int .i64 base, .int .i64 size, .bool keep, .slice none 0 0]) : RdP w w.heap.size (some ⟨g, 0, none⟩) 1 [⟨id, base, size, keep, []⟩] :=
 (own_pp h (Nat.zero_le _)).rd
theorem rd_ccnil (w : World) : RdC w w.heap.size none 0 [] := ⟨rfl, fun h => absurd h (Nat.lt_irrefl 0)⟩
end
section
open Go.RowKit
def shP : Pt := ⟨1, 0, 16, false, []⟩
theorem allE_nil : allE [] = 0 := by unfold allE; simp [ascC]
theorem allV_of {c : Cf} {a b d e f : Bool} (h1 : fltW c = a) (h2 : fltP c = b) (h3 : fltR c = d) (h4 : fltO c = e) (h5 : fltC c = f) : allV c = more a 90 ++ more b 120 ++ more d 80 ++ more e 121 ++ more f 100 := by
 unfold allV
 rw [h1, h2, h3, h4, h5]
theorem fltC_nil {ws : List Reg} {ps : List Pt} : fltC ⟨ws, ps, []⟩ = false := by
 unfold fltC
 simp [allE_nil, anyN]
theorem sh_ok : allV ⟨[(2, 1)], [shP], []⟩ = [] := allV_of (a := false) (b := false) (d := false) (e := false) (f := false) (by unfold fltW; decide) (by unfold fltP; decide) (by unfold fltR; decide) (by unfold fltO; decide) fltC_nil
theorem sh_win : allV ⟨[(2, 2)], [shP], []⟩ = [90] := allV_of (a := true) (b := false) (d := false) (e := false) (f := false) (by unfold fltW; decide) (by unfold fltP; decide) (by unfold fltR; decide) (by unfold fltO; decide) fltC_nil
end
section
open Go.RowKit
def keyB : List UInt8 := [107, 101, 121]
def exCf : Cf := ⟨[(2, 1)], [shP], []⟩
def exCw : Cf := ⟨[(2, 2)], [shP], []⟩
def exDK : List UInt8 := [240, 231, 179, 155, 99, 57, 170, 34, 156, 166, 139, 27, 62, 25, 210, 51, 239, 34, 24, 151, 154, 64, 92, 231, 101, 245, 67, 199, 199, 254, 44, 12]
def exT0 : List UInt8 := [19, 86, 80, 54, 109, 217, 245, 86, 92, 87, 102, 2, 149, 3, 158, 60, 167, 143, 73, 3, 15, 198, 152, 96, 15, 231, 79, 48, 228, 167, 179, 218]
def exH0 : List UInt8 := [204, 125, 136, 105, 246, 217, 53, 132, 46, 45, 170, 106, 98, 38, 78, 41, 112, 202, 207, 64, 214, 255, 179, 116, 34, 202, 48, 9, 104, 179, 112, 59]
def exT1 : List UInt8 := [71, 194, 98, 150, 185, 249, 194, 216, 140, 138, 115, 23, 141, 251, 29, 76, 139, 73, 221, 5, 238, 155, 52, 192, 113, 114, 138, 131, 0, 81, 173, 90]
def exU : Mf := ⟨1, zeros32, 1, exCf, zeros32⟩
def exR : Mf := ⟨1, zeros32, 1, exCf, exT0⟩
def exM : Mf := ⟨2, exH0, 1, exCf, exT0⟩
def exA : Mf := ⟨2, zeros32, 1, exCf, exT0⟩
def exB : Mf := ⟨1, exH0, 1, exCf, exT0⟩
def exW : Mf := ⟨2, exH0, 1, exCw, exT0⟩
theorem exCf_can : canC exCf = true := by decide
theorem exCw_can : canC exCw = true := by decide
theorem ex_can {a : Int} {p t : List UInt8} (h1 : 0 < a) (h2 : a ≤ 1099511627776) : canM ⟨a, p, 1, exCf, t⟩ = true := canM_iff.2 ⟨h1, h2, (show (0 : Int) < 1 by decide), (show (1 : Int) < 9 by decide), exCf_can⟩
theorem ex_canW {p t : List UInt8} : canM ⟨2, p, 1, exCw, t⟩ = true := canM_iff.2 ⟨(show (0 : Int) < 2 by decide), (show (2 : Int) ≤ 1099511627776 by decide), (show (0 : Int) < 1 by decide), (show (1 : Int) < 9 by decide), exCw_can⟩
theorem ex_dk : hmacL keyB (formI labelM []) = exDK := by decide +kernel
theorem ex_t0 : macM keyB exU = exT0 := by
 unfold macM
 rw [ex_dk]
 decide +kernel
theorem ex_seal : sealM keyB exU = exR := by
 unfold sealM
 rw [if_pos (show canM exU = true from ex_can (by decide) (by decide)), ex_t0]
 rfl
theorem ex_h0 : hashM exR = exH0 := by
 unfold hashM
 rw [if_pos (show canM exR = true from ex_can (by decide) (by decide))]
 decide +kernel
theorem ex_t1 : macM keyB exM = exT1 := by
 unfold macM
 rw [ex_dk]
 decide +kernel
theorem ex_right : rightM keyB exM = false := by
 unfold rightM
 rw [ex_t1, decide_eq_false (by decide), Bool.and_false]
theorem ex_zero : exH0 ≠ zeros32 := by decide
theorem inI_lit {x : Int} (h0 : 0 ≤ x) (h : x < 1000) : inI x := ⟨by omega, by omega⟩
theorem exCf_in : inC exCf := by
 refine ⟨fun r hr => ?_, fun p hp => ?_, fun x hx => (by cases hx)⟩
 ·obtain rfl := List.mem_singleton.1 hr
  exact ⟨inI_lit (by decide) (by decide), inI_lit (by decide) (by decide)⟩
 ·obtain rfl := List.mem_singleton.1 hp
  exact ⟨inI_lit (by decide) (by decide), inI_lit (by decide) (by decide), inI_lit (by decide) (by decide)⟩
theorem exCw_in : inC exCw := by
 refine ⟨fun r hr => ?_, fun p hp => ?_, fun x hx => (by cases hx)⟩
 ·obtain rfl := List.mem_singleton.1 hr
  exact ⟨inI_lit (by decide) (by decide), inI_lit (by decide) (by decide)⟩
 ·obtain rfl := List.mem_singleton.1 hp
  exact ⟨inI_lit (by decide) (by decide), inI_lit (by decide) (by decide), inI_lit (by decide) (by decide)⟩
theorem checkM_bytes {key : List UInt8} {run m : Mf} (hc : canM m = true) (hi : m.In) : checkM key run (bytesM m) =
  if rightM key m = false then 141 else if m.prev ≠ hashM run then 142 else if m.ver ≤ run.ver then 143 else if checkV m.cf ≠ 0 then checkV m.cf else if checkC run.cf m.cf ≠ 0 then 130 else 0 := by
 obtain ⟨h1, h2⟩ := okM_bytes hc hi
 unfold checkM
 rw [h1, if_neg (by decide), h2]
theorem exCf_check : checkV exCf = 0 := by
 unfold checkV exCf
 rw [sh_ok]
 rfl
theorem exCw_check : checkV exCw = 90 := by
 unfold checkV exCw
 rw [sh_win]
 rfl
theorem exCf_same : checkC exCf exCf = 0 := (val_of (fitsV_check.1 exCf_check)).check_self
theorem seal_in {key : List UInt8} {m : Mf} (h : m.In) : (sealM key m).In := by
 unfold sealM
 split
 ·exact ⟨h.ver, h.prev, h.trial, h.cf, hmacL_len _ _⟩
 ·exact h
theorem seal_can {key : List UInt8} {m : Mf} (h : canM m = true) : canM (sealM key m) = true := by
 unfold sealM
 rw [if_pos h]
 exact h
theorem seal_prev (key : List UInt8) (m : Mf) : (sealM key m).prev = m.prev ∧ (sealM key m).ver = m.ver ∧ (sealM key m).cf = m.cf := by
 unfold sealM
 split <;> exact ⟨rfl, rfl, rfl⟩
theorem checkM_seal {key : List UInt8} {run m : Mf} (hc : canM m = true) (hi : m.In) : checkM key run (bytesM (sealM key m)) =
  if m.prev ≠ hashM run then 142 else if m.ver ≤ run.ver then 143 else if checkV m.cf ≠ 0 then checkV m.cf else if checkC run.cf m.cf ≠ 0 then 130 else 0 := by
 obtain ⟨h1, h2, h3⟩ := seal_prev key m
 rw [checkM_bytes (seal_can hc) (seal_in hi), right_seal hc, if_neg (by decide), h1, h2, h3]
theorem exM_in : exM.In := ⟨inI_lit (by decide) (by decide), rfl, inI_lit (by decide) (by decide), exCf_in, rfl⟩
theorem exA_in : exA.In := ⟨inI_lit (by decide) (by decide), rfl, inI_lit (by decide) (by decide), exCf_in, rfl⟩
theorem exB_in : exB.In := ⟨inI_lit (by decide) (by decide), rfl, inI_lit (by decide) (by decide), exCf_in, rfl⟩
theorem exW_in : exW.In := ⟨inI_lit (by decide) (by decide), rfl, inI_lit (by decide) (by decide), exCw_in, rfl⟩
theorem ex_ok : checkM keyB exR (bytesM (sealM keyB exM)) = 0 := by
 rw [checkM_seal (m := exM) (show canM exM = true from ex_can (by decide) (by decide)) exM_in, ex_h0, if_neg (show ¬ exM.prev ≠ exH0 from not_not_intro rfl), if_neg (by decide)]
 show (if checkV exCf ≠ 0 then _ else if checkC exCf exCf ≠ 0 then _ else _) = _
 rw [exCf_check, exCf_same]
 rfl
theorem ex_tag : checkM keyB exR (bytesM exM) = 141 := by
 rw [checkM_bytes (m := exM) (show canM exM = true from ex_can (by decide) (by decide)) exM_in, ex_right, if_pos rfl]
theorem ex_chain : checkM keyB exR (bytesM (sealM keyB exA)) = 142 := by
 rw [checkM_seal (m := exA) (show canM exA = true from ex_can (by decide) (by decide)) exA_in, ex_h0, if_pos (fun e => ex_zero e.symm)]
theorem ex_stale : checkM keyB exR (bytesM (sealM keyB exB)) = 143 := by
 rw [checkM_seal (m := exB) (show canM exB = true from ex_can (by decide) (by decide)) exB_in, ex_h0, if_neg (show ¬ exB.prev ≠ exH0 from not_not_intro rfl), if_pos (by decide)]
theorem ex_sched : checkM keyB exR (bytesM (sealM keyB exW)) = 90 := by
 rw [checkM_seal (m := exW) (show canM exW = true from ex_canW) exW_in, ex_h0, if_neg (show ¬ exW.prev ≠ exH0 from not_not_intro rfl), if_neg (by decide)]
 show (if checkV exCw ≠ 0 then checkV exCw else _) = _
 rw [exCw_check]
 rfl
theorem ex_none : checkM keyB exR [] = 140 := by
 unfold checkM
 rw [if_pos]
 cases h : okM []
 ·rfl
 ·obtain ⟨h1, h2, h3⟩ := okM_got h
  have := (bytesM_len h3.prev h3.tag h2).2
  rw [← h1] at this
  cases this
end
end Go.Proofs.YtlmdidblgeeplaaGreatDoor