/- Several texts in one (a claim has 60 files at most): VaO, VaQ, CpM, MfM, MfO, CpQ, CfWr. -/
import Derived.Test.YtlmdidblgeeplaaGreatDoorTz
import Derived.Test.YtlmdidblgeeplaaGreatDoorPCfLcx
import Derived.Test.YtlmdidblgeeplaaGreatDoorPWA
import Derived.Test.YtlmdidblgeeplaaGreatDoorPWB
import Derived.Test.YtlmdidblgeeplaaGreatDoorPCfTy
import Derived.Test.YtlmdidblgeeplaaGreatDoorPChPx
import Derived.Test.YtlmdidblgeeplaaGreatDoorPInvRx
import Derived.Deep.MidRow
import Derived.ChangeSame
import Derived.SizedLaws
namespace Go.Proofs.YtlmdidblgeeplaaGreatDoor
set_option maxRecDepth 1000000
set_option maxHeartbeats 8000000
set_option linter.unusedVariables false
set_option linter.unusedSimpArgs false
section
open Go.RowKit
theorem hasP_iff {c : Cf} {id : Int} : hasP c id = true ↔ ∃ i, i < c.ps.length ∧ (ptAt c.ps i).id = id := by
 constructor
 ·intro h
  by_cases hn : ∀ j, j < c.ps.length → (ptAt c.ps j).id ≠ id
  ·unfold hasP at h
   rw [findP_none hn] at h
   cases h
  ·refine Classical.byContradiction fun hx => hn fun j hj e => hx ⟨j, hj, e⟩
 ·rintro ⟨i, hi, rfl⟩
  refine Classical.byContradiction fun hx => ?_
  -- the first of that ID is found
  have key : ∀ n, ∀ i, i < n → i < c.ps.length → (∀ j, j < i → (ptAt c.ps j).id ≠ (ptAt c.ps i).id) → hasP c (ptAt c.ps i).id = true := fun n i _ hi hb => by
   unfold hasP
   rw [findP_at hi hb rfl]
   exact decide_eq_true (by omega)
  have first : ∀ n i, i < n → i < c.ps.length → ∃ k, k ≤ i ∧ (ptAt c.ps k).id = (ptAt c.ps i).id ∧ ∀ j, j < k → (ptAt c.ps j).id ≠ (ptAt c.ps i).id := by
   intro n
   induction n with
   | zero => intro i h; omega
   | succ n ih =>
    intro i hin hi
    by_cases hb : ∀ j, j < i → (ptAt c.ps j).id ≠ (ptAt c.ps i).id
    ·exact ⟨i, Nat.le_refl _, rfl, hb⟩
    ·obtain ⟨j, hj, e⟩ : ∃ j, j < i ∧ (ptAt c.ps j).id = (ptAt c.ps i).id := Classical.byContradiction fun hx => hb fun j hj e => hx ⟨j, hj, e⟩
     obtain ⟨k, hk, e2, hb2⟩ := ih j (by omega) (by omega)
     exact ⟨k, by omega, e2.trans e, fun q hq e3 => hb2 q hq (e3.trans e.symm)⟩
  obtain ⟨k, hk, e, hb⟩ := first (i + 1) i (by omega) hi
  have := key (k + 1) k (by omega) (by omega) (fun j hj => by rw [e]; exact hb j hj)
  rw [e] at this
  exact hx this
end
section
open Go.RowKit
end
section
open Go.RowKit
def ptI (c : Cf) (id : Int) : Pt := ptAt c.ps (findP c.ps id).toNat
noncomputable def mayB (a b : Cf) : Bool := fitsV a && fitsV b
def keepB (a b : Cf) (id : Int) : Bool := hasP a id && (hasP b id && ((ptI a id).keep && (ptI b id).keep))
def sizeB (a b : Cf) (id : Int) : Bool := decide ((ptI a id).size = (ptI b id).size)
noncomputable def checkC (a b : Cf) : Int := if mayB a b = true then (if anyN (fun j => keepB a b ((j : Int) + 1) && !sizeB a b ((j : Int) + 1)) 6 = true then 130 else 0) else 2
end
section
open Go.RowKit
structure Mf where
 ver : Int
 prev : List UInt8
 trial : Int
 cf : Cf
 tag : List UInt8
 deriving DecidableEq
def Mf.zero : Mf := ⟨0, zeros32, 0, ⟨[], [], []⟩, zeros32⟩
structure Mf.In (m : Mf) : Prop where
 ver : inI m.ver
 prev : m.prev.length = 32
 trial : inI m.trial
 cf : inC m.cf
 tag : m.tag.length = 32
def canM (m : Mf) : Bool := decide (0 < m.ver) && (decide (m.ver ≤ 1099511627776) && (decide (0 < m.trial) && (decide (m.trial < 9) && canC m.cf)))
theorem canM_iff {m : Mf} : canM m = true ↔ 0 < m.ver ∧ m.ver ≤ 1099511627776 ∧ 0 < m.trial ∧ m.trial < 9 ∧ canC m.cf = true := by
 unfold canM
 simp only [Bool.and_eq_true, decide_eq_true_eq]
def headM (m : Mf) : List UInt8 := enc (u64N m.ver) 8 ++ m.prev ++ enc (u64N m.trial) 8 ++ (enc (formC m.cf).length 4 ++ formC m.cf)
def bytesM (m : Mf) : List UInt8 := headM m ++ m.tag
def hashM (m : Mf) : List UInt8 := if canM m = true then shaL (bytesM m) else zeros32
def labelM : List UInt8 := [109, 97, 110, 105, 102, 101, 115, 116]
def macM (key : List UInt8) (m : Mf) : List UInt8 := hmacL (hmacL key (formI labelM [])) (headM m)
def sealM (key : List UInt8) (m : Mf) : Mf := if canM m = true then ⟨m.ver, m.prev, m.trial, m.cf, macM key m⟩ else m
def rightM (key : List UInt8) (m : Mf) : Bool := canM m && decide (macM key m = m.tag)
theorem canM_seal (m : Mf) (t : List UInt8) : canM ⟨m.ver, m.prev, m.trial, m.cf, t⟩ = canM m := rfl
theorem right_seal {key : List UInt8} {m : Mf} (h : canM m = true) : rightM key (sealM key m) = true := by
 unfold sealM
 rw [if_pos h]
 unfold rightM
 rw [canM_seal, h]
 exact decide_eq_true rfl
theorem right_iff {key : List UInt8} {m : Mf} : rightM key m = (canM m && decide ((sealM key m).tag = m.tag)) := by
 unfold rightM sealM
 cases h : canM m
 ·rfl
 ·rw [if_pos rfl]
theorem headM_len {m : Mf} (hp : m.prev.length = 32) (hc : canM m = true) : (headM m).length ≤ 3834 := by
 have := formC_len (canM_iff.1 hc).2.2.2.2
 unfold headM
 simp only [List.length_append, enc_len, hp]
 omega
theorem bytesM_len {m : Mf} (hp : m.prev.length = 32) (ht : m.tag.length = 32) (hc : canM m = true) : (bytesM m).length ≤ 3866 ∧ 32 ≤ (bytesM m).length := by
 have := headM_len hp hc
 unfold bytesM
 rw [List.length_append, ht]
 omega
theorem codec_tag : Codec tagV (·.next 32) (fun t => t) (fun t => t.length = 32) := by
 refine ⟨fun s h => ?_, fun t u h => ?_⟩
 ·obtain ⟨h1, h2, h3, h4⟩ := rs_next h
  have hok : s.ok 32 = true := by unfold RS.ok; rw [decide_eq_true h1, decide_eq_true h2]; rfl
  refine ⟨?_, tagV_len s⟩
  unfold tagV
  rw [if_pos hok]
  exact rs_take h
 ·obtain ⟨a1, a2, _, _⟩ := rs_app (b := t) (tl := u) h
  refine ⟨?_, a2⟩
  unfold tagV
  rw [if_pos a1]
  exact List.take_left' h
abbrev M5 := Int × (List UInt8 × (Int × (List UInt8 × List UInt8)))
def m5V (s : RS) : M5 := (intV s, tagV (s.next 8), intV ((s.next 8).next 32), bytesV (((s.next 8).next 32).next 8), tagV (bytesS (((s.next 8).next 32).next 8)))
def m5S (s : RS) : RS := (bytesS (((s.next 8).next 32).next 8)).next 32
def m5B (x : M5) : List UInt8 := enc (u64N x.1) 8 ++ (x.2.1 ++ (enc (u64N x.2.2.1) 8 ++ ((enc x.2.2.2.1.length 4 ++ x.2.2.2.1) ++ x.2.2.2.2)))
def m5Ok (x : M5) : Prop := inI x.1 ∧ x.2.1.length = 32 ∧ inI x.2.2.1 ∧ x.2.2.2.1.length ≤ 65536 ∧ x.2.2.2.2.length = 32
theorem codec_m5 : Codec m5V m5S m5B m5Ok := codec_int.pair (codec_tag.pair (codec_int.pair (codec_bytes.pair codec_tag)))
theorem intV_in (s : RS) : inI (intV s) := wrap64_in _
theorem m5V_in (s : RS) : inI (m5V s).1 ∧ (m5V s).2.1.length = 32 ∧ inI (m5V s).2.2.1 ∧ (m5V s).2.2.2.2.length = 32 := ⟨intV_in s, tagV_len _, intV_in _, tagV_len _⟩
def toM (x : M5) : Mf := ⟨x.1, x.2.1, x.2.2.1, cfOut x.2.2.2.1, x.2.2.2.2⟩
def gotM (bs : List UInt8) : Mf := toM (m5V (newRS bs))
noncomputable def okM (bs : List UInt8) : Bool := decide (endV (m5S (newRS bs)) = 0) && (decide (cfErr (m5V (newRS bs)).2.2.2.1 = 0) && canM (gotM bs))
noncomputable def mfOut (bs : List UInt8) : Mf := if okM bs = true then gotM bs else Mf.zero
noncomputable def mfErr (bs : List UInt8) : Int := if okM bs = true then 0 else 140
theorem mfOut_yes {bs : List UInt8} (h : okM bs = true) : mfOut bs = gotM bs ∧ mfErr bs = 0 := by unfold mfOut mfErr; rw [if_pos h, if_pos h]; exact ⟨rfl, rfl⟩
theorem mfOut_no {bs : List UInt8} (h : okM bs = false) : mfOut bs = Mf.zero ∧ mfErr bs = 140 := by unfold mfOut mfErr; rw [h]; exact ⟨rfl, rfl⟩
theorem bytesM_eq (m : Mf) : bytesM m = m5B (m.ver, m.prev, m.trial, formC m.cf, m.tag) := by
 unfold bytesM headM m5B
 simp only [List.append_assoc]
theorem toM_cf {x1 x3 : Int} {x2 x4 x5 : List UInt8} (h : okC x4 = true) : toM (x1, x2, x3, x4, x5) = ⟨x1, x2, x3, gotC x4, x5⟩ := by
 unfold toM
 rw [(cfOut_yes (bs := x4) h).1]
theorem toM_in' {x1 x3 : Int} {x2 x4 x5 : List UInt8} (h1 : inI x1) (h2 : x2.length = 32) (h3 : inI x3) (h4 : x5.length = 32) (h : okC x4 = true) : (toM (x1, x2, x3, x4, x5)).In ∧ m5B (x1, x2, x3, x4, x5) = bytesM (toM (x1, x2, x3, x4, x5)) := by
 rw [toM_cf h]
 obtain ⟨e1, _, e3⟩ := okC_got h
 refine ⟨⟨h1, h2, h3, e3, h4⟩, ?_⟩
 rw [bytesM_eq]
 generalize gotC x4 = c at *
 subst e1
 rfl
theorem toM_in {x : M5} (h1 : inI x.1) (h2 : x.2.1.length = 32) (h3 : inI x.2.2.1) (h4 : x.2.2.2.2.length = 32) (h : okC x.2.2.2.1 = true) : (toM x).In ∧ m5B x = bytesM (toM x) := by
 obtain ⟨x1, x2, x3, x4, x5⟩ := x
 exact toM_in' h1 h2 h3 h4 h
theorem newRS_of {bs : List UInt8} (h : (newRS bs).e = 0) : newRS bs = ⟨bs, 0⟩ := by
 unfold newRS at h ⊢
 by_cases hl : 65536 < bs.length
 ·rw [if_pos hl] at h; cases h
 ·rw [if_neg hl]
theorem newRS_le {bs : List UInt8} (h : bs.length ≤ 65536) : newRS bs = ⟨bs, 0⟩ := by
 unfold newRS
 rw [if_neg (by omega)]
theorem endV_zero {s : RS} (h : endV s = 0) : s.e = 0 ∧ s.rest = [] := by
 unfold endV at h
 by_cases hh : s.e = 0 ∧ 0 < s.rest.length
 ·rw [if_pos hh] at h; cases h
 ·rw [if_neg hh] at h
  exact ⟨h, List.eq_nil_of_length_eq_zero (Nat.eq_zero_of_not_pos fun g => hh ⟨h, g⟩)⟩
theorem okM_got {bs : List UInt8} (h : okM bs = true) : bs = bytesM (gotM bs) ∧ canM (gotM bs) = true ∧ (gotM bs).In := by
 unfold okM at h
 simp only [Bool.and_eq_true, decide_eq_true_eq] at h
 obtain ⟨h1, h2, h3⟩ := h
 have hok : okC (m5V (newRS bs)).2.2.2.1 = true := by
  cases e : okC (m5V (newRS bs)).2.2.2.1
  ·rw [(cfOut_no e).2] at h2; cases h2
  ·rfl
 obtain ⟨he, hr⟩ := endV_zero h1
 obtain ⟨a, b⟩ := codec_m5.whole _ he
 obtain ⟨i1, i2, i3, i4⟩ := m5V_in (newRS bs)
 obtain ⟨hi, hb⟩ := toM_in i1 i2 i3 i4 hok
 have ar := a.r
 have hn := newRS_of a.e
 rw [hr, List.append_nil, hb] at ar
 have e0 : (newRS bs).rest = bs := by rw [hn]
 exact ⟨e0.symm.trans ar, h3, hi⟩
theorem okM_bytes {m : Mf} (hc : canM m = true) (hi : m.In) : okM (bytesM m) = true ∧ gotM (bytesM m) = m := by
 have hl := (bytesM_len hi.prev hi.tag hc).1
 have hn := newRS_le (bs := bytesM m) (by omega)
 have hcc := (canM_iff.1 hc).2.2.2.2
 have hfl := formC_len hcc
 obtain ⟨b1, b2⟩ := codec_m5.back (m.ver, m.prev, m.trial, formC m.cf, m.tag) [] ⟨hi.ver, hi.prev, hi.trial, by (show (formC m.cf).length ≤ 65536); omega, hi.tag⟩
 rw [List.append_nil, ← bytesM_eq, ← hn] at b1 b2
 have ho := okC_form hcc hi.cf
 have hg : gotM (bytesM m) = m := by
  unfold gotM
  rw [b1]
  show (⟨m.ver, m.prev, m.trial, cfOut (formC m.cf), m.tag⟩ : Mf) = m
  rw [(cfOut_yes ho.1).1, ho.2]
 refine ⟨?_, hg⟩
 unfold okM
 rw [hg, hc, b1, b2, (cfOut_yes ho.1).2]
 rfl
noncomputable def checkM (key : List UInt8) (run : Mf) (bs : List UInt8) : Int :=
 if okM bs = false then 140 else
 if rightM key (gotM bs) = false then 141 else
 if (gotM bs).prev ≠ hashM run then 142 else
 if (gotM bs).ver ≤ run.ver then 143 else
 if checkV (gotM bs).cf ≠ 0 then checkV (gotM bs).cf else
 if checkC run.cf (gotM bs).cf ≠ 0 then 130 else 0
noncomputable def takenM (key : List UInt8) (run : Mf) (bs : List UInt8) : Mf := if checkM key run bs = 0 then gotM bs else Mf.zero
theorem hashM_len (m : Mf) : (hashM m).length = 32 := by
 unfold hashM
 split
 ·exact shaL_len _
 ·rfl
end
section
open Go.RowKit Go.ChangeShapes Go.WideShapes Go.Deep
def mfL (m : Mf) (v : CV) : List Value := .int .i64 m.ver :: (m.prev.map bval ++ (.int .i64 m.trial :: .slice v.aw v.nw v.kw :: .slice v.ap v.np v.kp :: .slice v.ac v.nc v.kc :: m.tag.map bval))
def nilV : CV := ⟨none, 0, 0, none, 0, 0, none, 0, 0⟩
structure MfT (m : Mf) : Prop where
 prev : m.prev.length = 32
 tag : m.tag.length = 32
theorem MfT.zero : MfT Mf.zero := ⟨rfl, rfl⟩
theorem mfL_len {m : Mf} (h : MfT m) (v : CV) : (mfL m v).length = 69 := by simp [mfL, h.prev, h.tag]
theorem mfL_size {m : Mf} (h : MfT m) (v : CV) : (mfL m v).toArray.size = 69 := by rw [List.size_toArray, mfL_len h]
theorem mf_one (m : Mf) (v : CV) : (mfL m v).toArray.all (·.oneCell') = true := by
 refine Go.all_oneCell_toArray (fun u hu => ?_)
 simp only [mfL, List.mem_cons, List.mem_append, List.mem_map] at hu
 rcases hu with rfl | ⟨b, _, rfl⟩ | rfl | rfl | rfl | rfl | ⟨b, _, rfl⟩ <;> rfl
theorem mfL_prev {m : Mf} (h : MfT m) (v : CV) {j : Nat} {u : Value} (hj : (m.prev.map bval)[j]? = some u) : (mfL m v)[1 + j]? = some u := by
 have hl : j < m.prev.length := by
  rcases Nat.lt_or_ge j m.prev.length with g | g
  ·exact g
  ·rw [List.getElem?_eq_none (by simpa using g)] at hj; cases hj
 rw [mfL, Nat.add_comm, List.getElem?_cons_succ, List.getElem?_append_left (by simpa using hl)]
 exact hj
theorem mfL_behind {m : Mf} (h : MfT m) (v : CV) (j : Nat) : (mfL m v)[33 + j]? = (Value.int .i64 m.trial :: .slice v.aw v.nw v.kw :: .slice v.ap v.np v.kp :: .slice v.ac v.nc v.kc :: m.tag.map bval)[j]? := by
 rw [mfL, show 33 + j = (32 + j) + 1 by omega, List.getElem?_cons_succ, List.getElem?_append_right (by rw [List.length_map, h.prev]; omega)]
 congr 1
 rw [List.length_map, h.prev]
 omega
theorem mfL_tag {m : Mf} (h : MfT m) (v : CV) {j : Nat} {u : Value} (hj : (m.tag.map bval)[j]? = some u) : (mfL m v)[37 + j]? = some u := by
 rw [show 37 + j = 33 + (4 + j) by omega, mfL_behind h, show 4 + j = j + 1 + 1 + 1 + 1 by omega]
 exact hj
def MB (w : World) (g : Nat) (m : Mf) (v : CV) : Prop := MfT m ∧ Bx w g 30 (mfL m v)
theorem MB.to {w w' : World} {g : Nat} {m : Mf} {v : CV} (h : MB w g m v) (hb : Below w.heap.size w w') : MB w' g m v := ⟨h.1, h.2.to hb⟩
theorem MB.kept {R : Nat → Prop} {w w' : World} {g : Nat} {m : Mf} {v : CV} (h : MB w g m v) (hk : Keep R w w') (hn : ¬ R g) : MB w' g m v := ⟨h.1, h.2.kept hk hn⟩
theorem MB.new (w : World) {m : Mf} (h : MfT m) (v : CV) : MB (w.alloc (.cells (mfL m v).toArray 30)) w.heap.size m v := ⟨h, Bx.new w _ _⟩
theorem MB.lt {w : World} {g : Nat} {m : Mf} {v : CV} (h : MB w g m v) : g < w.heap.size := h.2.lt
theorem MB.cells {w : World} {g : Nat} {m : Mf} {v : CV} (h : MB w g m v) : w.cell? ⟨g, 0, none⟩ = some (.int .i64 m.ver) ∧ w.cell? ⟨g, 33, none⟩ = some (.int .i64 m.trial) ∧
  w.cell? ⟨g, 34, none⟩ = some (.slice v.aw v.nw v.kw) ∧ w.cell? ⟨g, 35, none⟩ = some (.slice v.ap v.np v.kp) ∧ w.cell? ⟨g, 36, none⟩ = some (.slice v.ac v.nc v.kc) :=
 ⟨h.2.at (j := 0) rfl, h.2.at (j := 33) (mfL_behind h.1 v 0), h.2.at (j := 34) (mfL_behind h.1 v 1), h.2.at (j := 35) (mfL_behind h.1 v 2), h.2.at (j := 36) (mfL_behind h.1 v 3)⟩
theorem MB.prev {w : World} {g : Nat} {m : Mf} {v : CV} (h : MB w g m v) : w.rangeAt g 1 (m.prev.map bval) := fun j u hu => h.2.at (j := 1 + j) (mfL_prev h.1 v hu)
theorem MB.tag {w : World} {g : Nat} {m : Mf} {v : CV} (h : MB w g m v) : w.rangeAt g 37 (m.tag.map bval) := fun j u hu => h.2.at (j := 37 + j) (mfL_tag h.1 v hu)
theorem MB.row {w : World} {g : Nat} {m : Mf} {v : CV} (h : MB w g m v) : w.heap[g]? = some (.cells (mfL m v).toArray 30 (0, 0)) := h.2
theorem MB.fz {w : World} {g : Nat} {m : Mf} {v : CV} (h : MB w g m v) (j : Nat) : w.frozen? ⟨g, j, none⟩ = false := h.2.fz j
theorem MB.there {w : World} {g : Nat} {m : Mf} {v : CV} (h : MB w g m v) {o n : Nat} (hn : o + n ≤ 69) : w.there g o n := fun j hj => by
 have hj' : o + j < (mfL m v).length := by rw [mfL_len h.1]; omega
 exact ⟨by rw [h.2.at (j := o + j) (List.getElem?_eq_getElem hj')]; rfl, h.2.fz _⟩
theorem mf_info : (Tryz.prog.info? 30).map (fun i => (i.zero, i.size)) = some (some (.agg (mfL Mf.zero nilV).toArray), 69) := by kernel_rfl
theorem mf_size {m : Mf} (h : MfT m) (v : CV) : (Tryz.prog.info? 30).map (·.size) = some (mfL m v).toArray.size := by
 rw [mfL_size h]; exact (zero_of_info mf_info).2
theorem mf_zero (w : World) : (zeroValue 30).run Tryz.prog w = .ok (.agg (mfL Mf.zero nilV).toArray) w := (zero_of_info mf_info).1 w
theorem tag_sizeL {bs : List UInt8} (h : bs.length = 32) : (Tryz.prog.info? 23).map (·.size) = some (bs.map bval).length := by
 rw [List.length_map, h]; exact (zero_of_info tag_info).2
theorem heap_setCellsM (g : Nat) (T : TypeId) : ∀ (vs : List Value) (o : Nat) (cur : Array Value) (w : World), w.heap[g]? = some (.cells cur T (0, 0)) → o + vs.length ≤ cur.size → (w.setCells g o vs).heap[g]? = some (.cells (cur.toList.take o ++ vs ++ cur.toList.drop (o + vs.length)).toArray T (0, 0))
 | [], o, cur, w, h, _ => by
  simp only [World.setCells, List.append_nil, List.length_nil, Nat.add_zero, List.take_append_drop, Array.toArray_toList]
  exact h
 | v :: rest, o, cur, w, h, hl => by
  have hi : o < cur.size := by simp at hl; omega
  have ih := heap_setCellsM g T rest (o + 1) (cur.setIfInBounds o v) (w.setCell ⟨g, o, none⟩ v) (heap_setCell_same _ _ _ _ _ _ h) (by simp at hl ⊢; omega)
  simp only [World.setCells]
  rw [ih]
  congr 3
  have e := list_seg_step cur.toList o v rest (by simp at hl ⊢; omega)
  simpa [Array.toList_setIfInBounds, Nat.add_assoc] using e
theorem keep_setCellsM {R : Nat → Prop} {a w : World} (h : Keep R a w) (g o : Nat) (vs : List Value) (hg : R g) : Keep R a (w.setCells g o vs) := by
 induction vs generalizing o w with
 | nil => exact h
 | cons v vs ih => exact ih (h.setCell _ _ hg) _
theorem below_setCellsM {B : Nat} {a w : World} (h : Below B a w) {g : Nat} (hg : B ≤ g) (o : Nat) (vs : List Value) : Below B a (w.setCells g o vs) := by
 induction vs generalizing o w with
 | nil => exact h
 | cons v vs ih => exact ih (h.setCell (p := ⟨g, o, none⟩) hg v) _
theorem mfL_front {m : Mf} (h : MfT m) (v : CV) : (mfL m v).take 37 = .int .i64 m.ver :: (m.prev.map bval ++ [.int .i64 m.trial, .slice v.aw v.nw v.kw, .slice v.ap v.np v.kp, .slice v.ac v.nc v.kc]) := by
 rw [mfL, show ∀ (a : Value) (l : List Value), (a :: l).take 37 = a :: l.take 36 from fun _ _ => rfl, List.take_append, List.length_map, h.prev, List.take_of_length_le (by rw [List.length_map, h.prev]; decide)]
 rfl
theorem MB.setTag {w : World} {g : Nat} {m : Mf} {v : CV} (h : MB w g m v) {t : List UInt8} (ht : t.length = 32) : MB (w.setCells g 37 (arrB t).toList) g ⟨m.ver, m.prev, m.trial, m.cf, t⟩ v := by
 refine ⟨⟨h.1.prev, ht⟩, ?_⟩
 have hs : (arrB t).toList = t.map bval := by simp [arrB]
 show (w.setCells g 37 (arrB t).toList).heap[g]? = _
 rw [hs, heap_setCellsM g _ (t.map bval) 37 _ w h.2 (by rw [List.length_map, ht, mfL_size h.1]; decide)]
 congr 3
 rw [List.length_map, ht, List.drop_of_length_le (by rw [show ((mfL m v).toArray.toList) = mfL m v from rfl, mfL_len h.1]; decide), List.append_nil, show ((mfL m v).toArray.toList) = mfL m v from rfl, mfL_front h.1]
 show _ = mfL _ v
 simp [mfL]
theorem MB.setPrev {w : World} {g : Nat} {m : Mf} {v : CV} (h : MB w g m v) {t : List UInt8} (ht : t.length = 32) : MB (w.setCells g 1 (arrB t).toList) g ⟨m.ver, t, m.trial, m.cf, m.tag⟩ v := by
 refine ⟨⟨ht, h.1.tag⟩, ?_⟩
 have hs : (arrB t).toList = t.map bval := by simp [arrB]
 show (w.setCells g 1 (arrB t).toList).heap[g]? = _
 rw [hs, heap_setCellsM g _ (t.map bval) 1 _ w h.2 (by rw [List.length_map, ht, mfL_size h.1]; decide)]
 congr 3
 rw [List.length_map, ht, show ((mfL m v).toArray.toList) = mfL m v from rfl]
 show _ = mfL _ v
 have hp : (m.prev.map bval).length = 32 := by rw [List.length_map, h.1.prev]
 rw [mfL, show ∀ (a : Value) (l : List Value), (a :: l).take 1 = [a] from fun _ _ => rfl, show ∀ (a : Value) (l : List Value), (a :: l).drop (1 + 32) = l.drop 32 from fun _ _ => rfl, List.drop_left' hp]
 simp [mfL]
theorem mfL_set {m : Mf} (h : MfT m) (v : CV) (j : Nat) (hj : j < 4) (u : Value) : (mfL m v).set (33 + j) u = .int .i64 m.ver :: (m.prev.map bval ++ (([Value.int .i64 m.trial, .slice v.aw v.nw v.kw, .slice v.ap v.np v.kp, .slice v.ac v.nc v.kc].set j u) ++ m.tag.map bval)) := by
 have hp : (m.prev.map bval).length = 32 := by rw [List.length_map, h.prev]
 rw [mfL, show 33 + j = (32 + j) + 1 by omega, List.set_cons_succ, List.set_append_right _ _ (by rw [hp]; omega), hp, show 32 + j - 32 = j by omega]
 congr 2
 match j, hj with
 | 0, _ => rfl
 | 1, _ => rfl
 | 2, _ => rfl
 | 3, _ => rfl
theorem MB.setTrial {w : World} {g : Nat} {m : Mf} {v : CV} (h : MB w g m v) (x : Int) : MB (w.setCell ⟨g, 33, none⟩ (.int .i64 x)) g ⟨m.ver, m.prev, x, m.cf, m.tag⟩ v := by
 refine ⟨⟨h.1.prev, h.1.tag⟩, ?_⟩
 have := h.2.set 33 (.int .i64 x)
 rw [mfL_set h.1 v 0 (by decide)] at this
 exact this
theorem MB.setVer {w : World} {g : Nat} {m : Mf} {v : CV} (h : MB w g m v) (x : Int) : MB (w.setCell ⟨g, 0, none⟩ (.int .i64 x)) g ⟨x, m.prev, m.trial, m.cf, m.tag⟩ v := ⟨⟨h.1.prev, h.1.tag⟩, h.2.set 0 (.int .i64 x)⟩
def setCf (w : World) (g : Nat) (v : CV) : World := ((w.setCell ⟨g, 34, none⟩ (.slice v.aw v.nw v.kw)).setCell ⟨g, 35, none⟩ (.slice v.ap v.np v.kp)).setCell ⟨g, 36, none⟩ (.slice v.ac v.nc v.kc)
theorem MB.setCf {w : World} {g : Nat} {m : Mf} {v : CV} (h : MB w g m v) (v' : CV) (c : Cf) : MB (setCf w g v') g ⟨m.ver, m.prev, m.trial, c, m.tag⟩ v' := by
 refine ⟨⟨h.1.prev, h.1.tag⟩, ?_⟩
 have h1 := h.2.set 34 (.slice v'.aw v'.nw v'.kw)
 rw [mfL_set h.1 v 1 (by decide)] at h1
 have h2 := Bx.set (show Bx _ g 30 (mfL m ⟨v'.aw, v'.nw, v'.kw, v.ap, v.np, v.kp, v.ac, v.nc, v.kc⟩) from h1) 35 (.slice v'.ap v'.np v'.kp)
 rw [mfL_set h.1 _ 2 (by decide)] at h2
 have h3 := Bx.set (show Bx _ g 30 (mfL m ⟨v'.aw, v'.nw, v'.kw, v'.ap, v'.np, v'.kp, v.ac, v.nc, v.kc⟩) from h2) 36 (.slice v'.ac v'.nc v'.kc)
 rw [mfL_set h.1 _ 3 (by decide)] at h3
 exact h3
theorem below_setCf {B : Nat} {a w : World} {g : Nat} (h : Below B a w) (hg : B ≤ g) (v : CV) : Below B a (setCf w g v) := ((h.setCell (p := ⟨g, 34, none⟩) hg _).setCell (p := ⟨g, 35, none⟩) hg _).setCell (p := ⟨g, 36, none⟩) hg _
theorem keep_setCf {R : Nat → Prop} {a w : World} {g : Nat} (h : Keep R a w) (hg : R g) (v : CV) : Keep R a (setCf w g v) := ((h.setCell _ _ hg).setCell _ _ hg).setCell _ _ hg
theorem MB.setRow {w : World} {g : Nat} {m : Mf} {v : CV} (h : MB w g m v) {m' : Mf} (ht : MfT m') (v' : CV) : MB (w.setRow g (mfL m' v').toArray) g m' v' := ⟨ht, setRow_heap _ _ _ _ _ _ h.2⟩
theorem keep_setRow {w : World} (g : Nat) (cells : Array Value) : Keep (· = g) w (w.setRow g cells) := ⟨rfl, rfl, rfl, by rw [setRow_size]; exact Nat.le_refl _, fun k hk hr => setRow_other w _ k _ (fun h => hr h)⟩
theorem wpList_load_rowGm {P : Program} {ops : Array Oper} {rest : List Oper} {o : Oper} {a : Act} {w : World} {Q : Exit → Act → World → Prop} (hw : Region.wanted o (yielded ops a.tmps) = true) (ty : TypeId) (x : Operand) (ho : o.op = .load ty x)
  (g : Nat) (hx : a.eval x = .pointer (some ⟨g, 0, none⟩)) (t : TypeId) (cs : Array Value) (fr : Nat × Nat) (d : TypeDesc) (hg : w.heap[g]? = some (.cells cs t fr))
  (hu : P.underlying ty = some d) (hd : (match d with | .struct _ | .array _ _ => true | _ => false) = true) (hi : (P.info? ty).map (·.size) = some cs.size)
  (h : wpList P ops Q rest (a.put o.dst (.agg cs)) w) : wpList P ops Q (o :: rest) a w :=
 wpList_step fun K hK => by rw [if_pos hw]; exact wp_load_row ty x ho g hx t cs fr d hg hu hd hi (hK _ _ h)
theorem wpList_load_midG {P : Program} {ops : Array Oper} {rest : List Oper} {o : Oper} {a : Act} {w : World} {Q : Exit → Act → World → Prop} (hw : Region.wanted o (yielded ops a.tmps) = true) (ty : TypeId) (x : Operand) (ho : o.op = .load ty x)
  (b of : Nat) (hx : a.eval x = .pointer (some ⟨b, of, none⟩)) (cs : List Value) (d : TypeDesc) (hc : w.rangeAt b of cs)
  (hu : P.underlying ty = some d) (hd : d.isRow = true) (hi : (P.info? ty).map (·.size) = some cs.length)
  (h : wpList P ops Q rest (a.put o.dst (.agg cs.toArray)) w) : wpList P ops Q (o :: rest) a w :=
 wpList_step fun K hK => by rw [if_pos hw]; exact wp_load_mid ty x ho b of hx cs d hc hu hd hi (hK _ _ h)
structure RdM (w : World) (B : Nat) (v : CV) (m : Mf) : Prop where
 t : MfT m
 cf : RdCf w B v m.cf
theorem RdM.to {w w' : World} {v : CV} {m : Mf} (h : RdM w w.heap.size v m) (hb : Below w.heap.size w w') : RdM w' w'.heap.size v m := ⟨h.t, h.cf.to hb⟩
theorem RdM.zero (w : World) (B : Nat) : RdM w B nilV Mf.zero := ⟨MfT.zero, rdCf_nil w B⟩
theorem results_mf {fn : Func} {p : Tmp} (h : fn.results = #[.cell p 30]) (tmps : Array Value) (w : World) (g : Nat) (m : Mf) (v : CV) (hp : tmps.getD p undef = .pointer (some ⟨g, 0, none⟩)) (hg : MB w g m v) :
  (results fn tmps).run Tryz.prog w = .ok (.agg (mfL m v).toArray) w :=
 results_cell_row h tmps w g 30 _ (0, 0) _ hp hg.2 Tryz.underlying30 rfl (mf_size hg.1 v)
theorem results_mfE {fn : Func} {p q : Tmp} (h : fn.results = #[.cell p 30, .tmp q]) (tmps : Array Value) (w : World) (g : Nat) (m : Mf) (v : CV) (u : Value) (hp : tmps.getD p undef = .pointer (some ⟨g, 0, none⟩)) (hq : tmps.getD q undef = u) (hg : MB w g m v) :
  (results fn tmps).run Tryz.prog w = .ok (.tuple #[.agg (mfL m v).toArray, u]) w := by
 have hp' : tmps[p]?.getD undef = .pointer (some ⟨g, 0, none⟩) := by simpa using hp
 have hq' : tmps[q]?.getD undef = u := by simpa using hq
 simp [results, h, hp', hq', asAddr, run_loadVar_row w g _ _ _ (0, 0) _ hg.2 Tryz.underlying30 rfl (mf_size hg.1 v)]
section
variable {H : Type} {enc : TypeId × Value → H} {W : World} {base : Nat} {held : Bool}
theorem trod_config {k : Nat} {l : List Value} {x : DataW H × List MemPlace} (hf : DataW.trod enc Tryz.prog W base (fun _ => true) held k 28 l = some x) (hw : ∀ y ∈ x.1.weights Tryz.prog 28, y ≤ reachBytes) :
  ∃ (v : CV) (c : Cf), l = cfL v ∧ RdCf W W.heap.size v c ∧ v.kw ≤ 9223372036854775807 ∧ v.kp ≤ 9223372036854775807 ∧ v.kc ≤ 9223372036854775807 ∧ CfWf c := by
 obtain ⟨xs, k, rfl, hxx, hl, hxl, hq⟩ := DataW.trod_struct Tryz.underlying28 hf
 have hl3 : l.length = 3 := by rw [hl]; kernel_rfl
 have e0 : Tryz.prog.cellsOf 24 = 1 := by kernel_rfl
 have e1 : Tryz.prog.cellsOf 25 = 1 := by kernel_rfl
 have e2 : Tryz.prog.cellsOf 26 = 1 := by kernel_rfl
 have h0 : DataW.trod enc Tryz.prog W base (fun _ => true) held k 24 ((l.drop 0).take (Tryz.prog.cellsOf 24)) = xs[0]? := hq 0 _ rfl
 have h1 : DataW.trod enc Tryz.prog W base (fun _ => true) held k 25 ((l.drop 1).take (Tryz.prog.cellsOf 25)) = xs[1]? := hq 1 _ rfl
 have h2 : DataW.trod enc Tryz.prog W base (fun _ => true) held k 26 ((l.drop 2).take (Tryz.prog.cellsOf 26)) = xs[2]? := hq 2 _ rfl
 have hx3 : xs.length = 3 := hxl
 rw [List.getElem?_eq_getElem (by omega)] at h0 h1 h2
 rw [e0] at h0
 rw [e1] at h1
 rw [e2] at h2
 have hwt : ∀ y ∈ (xs[1]'(by omega)).1.weights Tryz.prog 25, y ≤ reachBytes := fun y hy => hw y (by
  rw [hxx]
  simp only [DataW.weights, Tryz.underlying28]
  exact DataW.weights_mem_each (j := 1) rfl (by rw [List.getElem?_map, List.getElem?_eq_getElem (by omega)]; rfl) y hy)
 obtain ⟨c0, c1, c2, rfl⟩ : ∃ c0 c1 c2, l = [c0, c1, c2] := by
  match l, hl3 with
  | [a, b, c], _ => exact ⟨a, b, c, rfl⟩
 simp only [List.drop_succ_cons, List.drop_zero, List.take_succ_cons, List.take_zero] at h0 h1 h2
 obtain ⟨aw, nw, kw, lw, rfl, hrw, hw1, hw2, hw3⟩ := trod_wins h0
 obtain ⟨ap, np, kp, lp, rfl, hrp, hp1, hp2, hp3⟩ := trod_pts h1 hwt
 obtain ⟨ac, nc, kc, lc, rfl, hrc, hc1, hc2, hc3⟩ := trod_chs h2
 exact ⟨⟨aw, nw, kw, ap, np, kp, ac, nc, kc⟩, ⟨lw, lp, lc⟩, rfl, ⟨hrw, hrp, hrc, hw1, hp1, hc1⟩, hw2, hp2, hc2, hw3, hp3, hc3⟩
theorem trod_tag {k : Nat} {l : List Value} {x : DataW H × List MemPlace} (h : DataW.trod enc Tryz.prog W base (fun _ => true) held k 23 l = some x) (hl : l.length = 32) : ∃ ts : List UInt8, l = ts.map bval ∧ ts.length = 32 := by
 have e2 : Tryz.prog.cellsOf 5 = 1 := by kernel_rfl
 obtain ⟨ys, m5, _, _, hl5, hyl, hy⟩ := DataW.trod_array Tryz.underlying23 h
 have each : ∀ i (hi : i < l.length), ∃ y : UInt8, l[i] = bval y := by
  intro i hi
  have h := hy i (by omega)
  rw [e2, Nat.mul_one, List.getElem?_eq_getElem (by omega), List.drop_eq_getElem_cons hi] at h
  simp only [List.take_succ_cons, List.take_zero] at h
  obtain ⟨z, hz, _, hw⟩ := DataW.trod_int Tryz.underlying5 h
  simp only [List.cons.injEq, and_true] at hz
  obtain ⟨a1, a2⟩ := wf_u8 hw
  obtain ⟨y, rfl⟩ := u8_of a1 a2
  exact ⟨y, hz⟩
 have key : ∀ l : List Value, (∀ i (hi : i < l.length), ∃ y : UInt8, l[i] = bval y) → ∃ ts : List UInt8, l = ts.map bval := by
  intro l
  induction l with
  | nil => exact fun _ => ⟨[], rfl⟩
  | cons x l ih =>
   intro h
   obtain ⟨ts, hts⟩ := ih (fun i hi => h (i + 1) (by simpa using hi))
   obtain ⟨y, hy⟩ := h 0 (by simp)
   exact ⟨y :: ts, by simpa [hts] using hy⟩
 obtain ⟨ts, hts⟩ := key l each
 exact ⟨ts, hts, by rw [← hl, hts, List.length_map]⟩
theorem open_mf {r : Reach} {b0 : Nat} {v : Value} {d : DataW H} {ps : List MemPlace} (hval : Value.okWide Tryz.prog W r b0 30 v) (hd : DataW.Trod enc Tryz.prog W base (fun _ => true) held 30 v d ps)
  (hw : ∀ y ∈ d.weights Tryz.prog 30, y ≤ reachBytes) :
  ∃ (x : CV) (m : Mf), v = .agg (mfL m x).toArray ∧ RdM W W.heap.size x m ∧ x.kw ≤ 9223372036854775807 ∧ x.kp ≤ 9223372036854775807 ∧ x.kc ≤ 9223372036854775807 ∧ m.In := by
 obtain ⟨cs, rfl, _⟩ := okWide_struct Tryz.underlying30 hval
 obtain ⟨fuel, hf⟩ := hd
 obtain ⟨xs, k, rfl, hxx, hl, hxl, hq⟩ := DataW.trod_struct Tryz.underlying30 hf
 simp only [Value.cells] at hl hq
 obtain ⟨cs⟩ := cs
 have hl69 : cs.length = 69 := by rw [hl]; kernel_rfl
 have e1 : Tryz.prog.cellsOf 3 = 1 := by kernel_rfl
 have e2 : Tryz.prog.cellsOf 23 = 32 := by kernel_rfl
 have e3 : Tryz.prog.cellsOf 28 = 3 := by kernel_rfl
 have h0 : DataW.trod enc Tryz.prog W base (fun _ => true) held k 3 ((cs.drop 0).take (Tryz.prog.cellsOf 3)) = xs[0]? := hq 0 _ rfl
 have h1 : DataW.trod enc Tryz.prog W base (fun _ => true) held k 23 ((cs.drop 1).take (Tryz.prog.cellsOf 23)) = xs[1]? := hq 1 _ rfl
 have h2 : DataW.trod enc Tryz.prog W base (fun _ => true) held k 3 ((cs.drop 33).take (Tryz.prog.cellsOf 3)) = xs[2]? := hq 2 _ rfl
 have h3 : DataW.trod enc Tryz.prog W base (fun _ => true) held k 28 ((cs.drop 34).take (Tryz.prog.cellsOf 28)) = xs[3]? := hq 3 _ rfl
 have h4 : DataW.trod enc Tryz.prog W base (fun _ => true) held k 23 ((cs.drop 37).take (Tryz.prog.cellsOf 23)) = xs[4]? := hq 4 _ rfl
 have hx5 : xs.length = 5 := hxl
 rw [List.getElem?_eq_getElem (by omega)] at h0 h1 h2 h3 h4
 rw [e1] at h0 h2
 rw [e2] at h1 h4
 rw [e3] at h3
 have hdx := congrArg Prod.fst hxx
 simp only at hdx
 have hwt : ∀ y ∈ (xs[3]'(by omega)).1.weights Tryz.prog 28, y ≤ reachBytes := fun y hy => hw y (by
  rw [hdx]
  simp only [DataW.weights, Tryz.underlying30]
  exact DataW.weights_mem_each (j := 3) rfl (by rw [List.getElem?_map, List.getElem?_eq_getElem (by omega)]; rfl) y hy)
 have s0 : ∃ a b c d e : List Value, cs = a ++ (b ++ (c ++ (d ++ e))) ∧ (cs.drop 0).take 1 = a ∧ (cs.drop 1).take 32 = b ∧ (cs.drop 33).take 1 = c ∧ (cs.drop 34).take 3 = d ∧ (cs.drop 37).take 32 = e := by
  refine ⟨_, _, _, _, _, ?_, rfl, rfl, rfl, rfl, rfl⟩
  rw [List.take_of_length_le (show (cs.drop 37).length ≤ 32 by simp; omega)]
  rw [show cs.drop 37 = (cs.drop 34).drop 3 by rw [List.drop_drop], List.take_append_drop, show cs.drop 34 = (cs.drop 33).drop 1 by rw [List.drop_drop], List.take_append_drop, show cs.drop 33 = (cs.drop 1).drop 32 by rw [List.drop_drop], List.take_append_drop, List.drop_zero, List.take_append_drop]
 obtain ⟨a, b, c, dd, e, hcs, ha, hb, hc, hdd, he⟩ := s0
 have lb : b.length = 32 := by rw [← hb]; simp; omega
 have le : e.length = 32 := by rw [← he]; simp; omega
 rw [ha] at h0
 rw [hb] at h1
 rw [hc] at h2
 rw [hdd] at h3
 rw [he] at h4
 obtain ⟨z0, g0, _, w0⟩ := DataW.trod_int Tryz.underlying3 h0
 obtain ⟨z2, g2, _, w2⟩ := DataW.trod_int Tryz.underlying3 h2
 obtain ⟨t1, g1, l1⟩ := trod_tag h1 lb
 obtain ⟨t4, g4, l4⟩ := trod_tag h4 le
 obtain ⟨x, cf, g3, hr, k1, k2, k3, hwf⟩ := trod_config h3 hwt
 subst g0; subst g1; subst g2; subst g3; subst g4
 refine ⟨x, ⟨z0, t1, z2, cf, t4⟩, ?_, ⟨⟨l1, l4⟩, hr⟩, k1, k2, k3, ⟨inI_wf w0, l1, inI_wf w2, inC_wf hwf, l4⟩⟩
 rw [hcs]
 rfl
end
end
section
open Go.RowKit
theorem sizeB_self (c : Cf) (id : Int) : sizeB c c id = true := decide_eq_true rfl
theorem Val.may2 {c : Cf} (v : Val c) : mayB c c = true := by unfold mayB; rw [fits_of v]; rfl
theorem Val.check_self {c : Cf} (v : Val c) : checkC c c = 0 := by
 unfold checkC
 rw [v.may2, if_pos rfl, if_neg]
 rw [anyN_iff]
 rintro ⟨k, _, h⟩
 rw [sizeB_self] at h
 simp at h
theorem Val.ptI {c : Cf} (v : Val c) {i : Nat} (hi : i < c.ps.length) : ptI c (ptAt c.ps i).id = ptAt c.ps i := by
 unfold Proofs.YtlmdidblgeeplaaGreatDoor.ptI
 rw [v.find hi, Int.toNat_natCast]
theorem Val.hasI {c : Cf} (v : Val c) {i : Nat} (hi : i < c.ps.length) : hasP c (ptAt c.ps i).id = true := by
 unfold hasP
 rw [v.find hi]
 exact decide_eq_true (by omega)
end
section
open Go.RowKit
theorem own_cellV {w : World} {B z : Nat} {T : TypeId} {g n c i : Nat} {xs : List Value} (h : w.ownsRow B T z (.slice (some ⟨g, 0, none⟩) n c) n xs) (hi : i < n * z) (u : Value) :
  (w.setCell ⟨g, i, none⟩ u).ownsRow B T z (.slice (some ⟨g, 0, none⟩) n c) n (xs.set i u) := by
 rcases h.2 with ⟨e, _⟩ | ⟨g', cap, cur, e, hB, hh, hnc, hcm, hcs, htk⟩
 ·cases e
 ·simp only [Value.slice.injEq, Option.some.injEq, Addr.mk.injEq, and_true, true_and] at e
  obtain ⟨rfl, rfl⟩ := e
  have hb : Bx w g T cur.toList := by show w.heap[g]? = _; rw [hh]
  have h2 := hb.set i u
  refine ⟨by rw [List.length_set]; exact h.1, .inr ⟨g, c, _, rfl, hB, h2, hnc, hcm, ?_, ?_⟩⟩
  ·simp only [List.size_toArray, List.length_set, Array.length_toList]; exact hcs
  ·show (cur.toList.set i u).take (n * z) = _
   rw [← htk, List.take_set]
end
end Go.Proofs.YtlmdidblgeeplaaGreatDoor