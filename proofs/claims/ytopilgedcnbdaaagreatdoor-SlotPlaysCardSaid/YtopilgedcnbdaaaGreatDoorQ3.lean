/- Several texts in one (a claim has 60 files at most): SlG, SlH, SlAct, SlL, SlK, SlJ. -/
import Derived.Test.YtopilgedcnbdaaaGreatDoorTz
import Derived.Test.YtopilgedcnbdaaaGreatDoorQ0
import Derived.Test.YtopilgedcnbdaaaGreatDoorDiskG
import Derived.Test.YtopilgedcnbdaaaGreatDoorShaH
import Derived.Test.YtopilgedcnbdaaaGreatDoorArrEq
import Derived.Deep.RegionHeld
import Derived.Test.YtopilgedcnbdaaaGreatDoorQ2
import Derived.Test.YtopilgedcnbdaaaGreatDoorShaRefS
import Derived.Test.YtopilgedcnbdaaaGreatDoorOpen
import Derived.Test.YtopilgedcnbdaaaGreatDoorKitO
import Derived.Test.YtopilgedcnbdaaaGreatDoorDiskM
import Derived.Deep.Slices
import Derived.Deep.Fields
import Derived.Deep.MidRow
import Derived.ChangeSame
import Derived.SizedLaws
import Derived.Test.YtopilgedcnbdaaaGreatDoorQ1
import Derived.Test.YtopilgedcnbdaaaGreatDoorKit
namespace Go.Proofs.YtopilgedcnbdaaaGreatDoor
set_option maxRecDepth 1000000
set_option maxHeartbeats 8000000
set_option linter.unusedVariables false
set_option linter.unusedSimpArgs false
section
open Go.RowKit Go.Shelf
def getS (sl n : Int) (hash : List UInt8) (s : DS) : List UInt8 × Int :=
 if (readS sl n s).2 ≠ 0 then ([], (readS sl n s).2) else if shaL (readS sl n s).1 = hash then ((readS sl n s).1, 0) else ([], 150)
theorem readS_len4 (sl n : Int) (s : DS) : (readS sl n s).1.length ≤ 4096 := by
 unfold readS
 split
 ·exact Nat.zero_le _
 ·rename_i h
  have h0 : refS sl 0 n = 0 := Classical.not_not.1 h
  obtain ⟨-, -, g1, g2, -⟩ := refS_ok h0
  split
  ·exact Nat.zero_le _
  ·split
   ·exact Nat.zero_le _
   ·simp only [List.length_take]
    omega
theorem slGet (d : Nat) (D : Nat → Prop) (s : DS) (sl n : Int) (hash : List UInt8) (w : World) (hp : Pr w) (h : DkAt w d D s) (hl : 0 < s.L.length) (hh : hash.length = 32) :
  Calls Tryz.prog 16 #[.pointer (some ⟨d, 0, none⟩), .int .i64 sl, .int .i64 n, .agg (arrB hash)] w (RetE w (getS sl n hash s)) := by
 have HB : Hid (Below w.heap.size w (w.alloc (.cells (arrB hash) 57))) := (Below.refl _ _).alloc (Nat.le_refl _) _
 have T0 : Hid (TagAt (w.alloc (.cells (arrB hash) 57)) w.heap.size hash) := ⟨hh, heap_alloc_last w _⟩
 have HRD := qH (slRead d D s sl n _ (h.to HB.out) hl)
 have HP := qH (hp.to HB.out)
 have HG : Hid (getS sl n hash s = if (readS sl n s).2 ≠ 0 then ([], (readS sl n s).2) else if shaL (readS sl n s).1 = hash then ((readS sl n s).1, 0) else ([], 150)) := rfl
 have HL4 := qH (readS_len4 sl n s)
 have HH := qH hh
 clear h hl hp
 go_enter Tryz.func16, Tryz.ntmps16
 go_wp2_with fail
 refine (HRD.out).mono ?_
 rintro e w1 ⟨A, m, c, rfl, hrd, hmc, hc, hb⟩
 generalize readS sl n s = x at *
 obtain ⟨bs, ev⟩ := x
 dsimp only at *
 have R := qH hrd
 have HM : Hid (m ≤ 4096) := by show _ ≤ _; rw [← R.out.1]; exact HL4.out
 have HMC : Hid (m ≤ c) := hmc
 have HC : Hid (c ≤ 9223372036854775807) := hc
 replace HP := qH (HP.out.to hb)
 have T1 := qH (T0.out.below hb)
 have B1 := qH (HB.out.trans (hb.mono HB.out.size))
 clear hrd hmc hc hb HB T0 HRD hh
 by_cases hev : ev = 0
 ·subst hev
  have hcl := shaL_len bs
  have heq : ∀ w', (Op.equalIn 10000 57 (.agg (arrB (shaL bs))) (.agg (hash.map bval).toArray)).run Tryz.prog w' = .ok (decide (shaL bs = hash)) w' := fun w' => run_eql_arrB (P := Tryz.prog) Tryz.underlying57 Tryz.underlying5 (sizeOf_one (by kernel_rfl)) (shaL bs) hash hcl HH.out w'
  have hu := Tryz.underlying57
  have hi : (Tryz.prog.info? 57).map (·.size) = some (hash.map bval).length := by rw [List.length_map, HH.out]; exact (zero_of_info tag_info).2
  have hgd : Tryz.prog.eqGuardType Tryz.prog.depth 57 = false := by kernel_rfl
  go_wp2_with fail
  have HSH := qH (wSha A m c bs w1.drew (HP.out.to ((Below.refl _ _).drew)) R.out.drew' (by have := HM.out; omega) HMC.out HC.out)
  have BD := qH B1.out.drew
  have TD : Hid (TagAt w1.drew w.heap.size hash) := T1.out
  have RD := qH R.out.drew'
  clear HP R T1 B1
  generalize hwd : w1.drew = wd at *
  have HWD := qH hwd
  clear hwd
  refine wp_region_held_drew (S := (fun w' => w'.rangeAt w.heap.size 0 (hash.map bval))) (by kernel_rfl) ((by rw [HWD.out]; exact TD.out.range)) (fun hHeld => ?_)
  rw [HWD.out] at hHeld ⊢
  refine tk 0 ?_
  simp only [pR]
  refine tl 2 (.agg (List.toArray (hash.map bval))) rfl (yieldsIf_load_mid (by rfl) 57 _ rfl w.heap.size 0 rfl (hash.map bval) _ (fun _ h => h) hu rfl hi) ?_
  simp only [pR]
  refine rd1 1 (fun K hK => ?_)
  go_simp
  refine (HSH.out).mono ?_
  rintro e w2 ⟨rfl, hb⟩
  have T2 := qH (TD.out.below hb)
  have R2 := qH (RD.out.to hb)
  have B2 := qH (BD.out.trans (hb.mono BD.out.size))
  clear hb
  go_wp2_with fail
  refine hK.out _ _ (T2.out.range) (fun hHeld => ?_)
  clear hK K
  refine tk 3 ?_
  simp only [pR]
  refine wpAnyH_done (by kernel_rfl) ?_ _
  clear hHeld hu hi hgd heq TD T2 RD BD HSH
  by_cases hs : shaL bs = hash
  ·have HSE : Hid (getS sl n hash s = (bs, 0)) := by show _ = _; rw [HG.out, if_neg (by simp), if_pos hs]
   rw [decide_eq_true hs]
   clear hs
   go_wp2_with fail
   refine bodyPost_ret (res_twoS rfl _ _ _ _ rfl rfl) rfl ?_
   rw [HSE.out]
   exact ⟨A, m, c, rfl, R2.out, HMC.out, HC.out, B2.out⟩
  ·have HSE : Hid (getS sl n hash s = ([], 150)) := by show _ = _; rw [HG.out, if_neg (by simp), if_neg hs]
   rw [decide_eq_false hs]
   clear hs
   go_wp2_with fail
   refine bodyPost_ret (res_twoS rfl _ _ _ _ rfl rfl) rfl ?_
   rw [HSE.out]
   exact ⟨none, 0, 0, rfl, Rd.nil _ _ _, Nat.le_refl _, by decide, B2.out⟩
 ·have HNE : Hid (¬ ev = 0) := hev
  go_wp2_with fail
  refine bodyPost_ret (res_twoS rfl _ _ _ _ rfl rfl) rfl ?_
  rw [HG.out, if_pos HNE.out]
  exact ⟨none, 0, 0, rfl, Rd.nil _ _ _, Nat.le_refl _, by decide, B1.out⟩
end
section
open Go.RowKit Go.Shelf
theorem rGetS (r : Nat) (G : Nat → Prop) (s : DS) (sl n : Int) (hash : List UInt8) (w : World) (h : DrAt w r G s) (hh : hash.length = 32) :
  Calls Tryz.prog 17 #[.pointer (some ⟨r, 0, none⟩), .int .i64 sl, .int .i64 n, .agg (arrB hash)] w (RetE w (getS sl n hash s)) := by
 have HB : Hid (Below w.heap.size w (w.alloc (.cells (arrB hash) 57))) := (Below.refl _ _).alloc (Nat.le_refl _) _
 have T0 : Hid (TagAt (w.alloc (.cells (arrB hash) 57)) w.heap.size hash) := ⟨hh, heap_alloc_last w _⟩
 have HRD := qH (rReadS r G s sl n _ (h.to HB.out))
 have HG : Hid (getS sl n hash s = if (readS sl n s).2 ≠ 0 then ([], (readS sl n s).2) else if shaL (readS sl n s).1 = hash then ((readS sl n s).1, 0) else ([], 150)) := rfl
 have HL4 := qH (readS_len4 sl n s)
 have HH := qH hh
 clear h
 go_enter Tryz.func17, Tryz.ntmps17
 go_wp2_with fail
 refine (HRD.out).mono ?_
 rintro e w1 ⟨A, m, c, rfl, hrd, hmc, hc, hb⟩
 generalize readS sl n s = x at *
 obtain ⟨bs, ev⟩ := x
 dsimp only at *
 have R := qH hrd
 have HM : Hid (m ≤ 4096) := by show _ ≤ _; rw [← R.out.1]; exact HL4.out
 have HMC : Hid (m ≤ c) := hmc
 have HC : Hid (c ≤ 9223372036854775807) := hc
 have T1 := qH (T0.out.below hb)
 have B1 := qH (HB.out.trans (hb.mono HB.out.size))
 clear hrd hmc hc hb HB T0 HRD hh
 by_cases hev : ev = 0
 ·subst hev
  have hcl := shaL_len bs
  have heq : ∀ w', (Op.equalIn 10000 57 (.agg (arrB (shaL bs))) (.agg (hash.map bval).toArray)).run Tryz.prog w' = .ok (decide (shaL bs = hash)) w' := fun w' => run_eql_arrB (P := Tryz.prog) Tryz.underlying57 Tryz.underlying5 (sizeOf_one (by kernel_rfl)) (shaL bs) hash hcl HH.out w'
  have hu := Tryz.underlying57
  have hi : (Tryz.prog.info? 57).map (·.size) = some (hash.map bval).length := by rw [List.length_map, HH.out]; exact (zero_of_info tag_info).2
  have hgd : Tryz.prog.eqGuardType Tryz.prog.depth 57 = false := by kernel_rfl
  go_wp2_with fail
  have HSH := qH (rSum A m c bs w1.drew R.out.drew' (by have := HM.out; omega))
  have BD := qH B1.out.drew
  have TD : Hid (TagAt w1.drew w.heap.size hash) := T1.out
  have RD := qH R.out.drew'
  clear R T1 B1
  generalize hwd : w1.drew = wd at *
  have HWD := qH hwd
  clear hwd
  refine wp_region_held_drew (S := (fun w' => w'.rangeAt w.heap.size 0 (hash.map bval))) (by kernel_rfl) ((by rw [HWD.out]; exact TD.out.range)) (fun hHeld => ?_)
  rw [HWD.out] at hHeld ⊢
  refine tk 0 ?_
  simp only [pR]
  refine tl 2 (.agg (List.toArray (hash.map bval))) rfl (yieldsIf_load_mid (by rfl) 57 _ rfl w.heap.size 0 rfl (hash.map bval) _ (fun _ h => h) hu rfl hi) ?_
  simp only [pR]
  refine rd1 1 (fun K hK => ?_)
  go_simp
  refine (HSH.out).mono ?_
  rintro e w2 ⟨rfl, hb⟩
  have T2 := qH (TD.out.below hb)
  have R2 := qH (RD.out.to hb)
  have B2 := qH (BD.out.trans (hb.mono BD.out.size))
  clear hb
  go_wp2_with fail
  refine hK.out _ _ (T2.out.range) (fun hHeld => ?_)
  clear hK K
  refine tk 3 ?_
  simp only [pR]
  refine wpAnyH_done (by kernel_rfl) ?_ _
  clear hHeld hu hi hgd heq TD T2 RD BD HSH
  by_cases hs : shaL bs = hash
  ·have HSE : Hid (getS sl n hash s = (bs, 0)) := by show _ = _; rw [HG.out, if_neg (by simp), if_pos hs]
   rw [decide_eq_true hs]
   clear hs
   go_wp2_with fail
   refine bodyPost_ret (res_twoS rfl _ _ _ _ rfl rfl) rfl ?_
   rw [HSE.out]
   exact ⟨A, m, c, rfl, R2.out, HMC.out, HC.out, B2.out⟩
  ·have HSE : Hid (getS sl n hash s = ([], 150)) := by show _ = _; rw [HG.out, if_neg (by simp), if_neg hs]
   rw [decide_eq_false hs]
   clear hs
   go_wp2_with fail
   refine bodyPost_ret (res_twoS rfl _ _ _ _ rfl rfl) rfl ?_
   rw [HSE.out]
   exact ⟨none, 0, 0, rfl, Rd.nil _ _ _, Nat.le_refl _, by decide, B2.out⟩
 ·have HNE : Hid (¬ ev = 0) := hev
  go_wp2_with fail
  refine bodyPost_ret (res_twoS rfl _ _ _ _ rfl rfl) rfl ?_
  rw [HG.out, if_pos HNE.out]
  exact ⟨none, 0, 0, rfl, Rd.nil _ _ _, Nat.le_refl _, by decide, B1.out⟩
end
section
open Go.RowKit Go.ChangeShapes Go.WideShapes Go.Deep
structure SAct where
 kind : Int
 slot : Int
 n : Int
 b : List UInt8
 odd : Bool
def SAct.zero : SAct := ⟨0, 0, 0, [], false⟩
def sactL (a : SAct) (A : Option Addr) (m c : Nat) : List Value := [.int .i64 a.kind, .int .i64 a.slot, .int .i64 a.n, .slice A m c, .bool a.odd]
structure SActOk (w : World) (B : Nat) (a : SAct) (A : Option Addr) (m c : Nat) : Prop where
 kk : -9223372036854775808 ≤ a.kind ∧ a.kind ≤ 9223372036854775807
 ss : -9223372036854775808 ≤ a.slot ∧ a.slot ≤ 9223372036854775807
 nn : -9223372036854775808 ≤ a.n ∧ a.n ≤ 9223372036854775807
 rd : Rd w B A m a.b
 mc : m ≤ c
 cc : c ≤ 140737488351232
theorem SActOk.below {w w' : World} {B : Nat} {a : SAct} {A : Option Addr} {m c : Nat} (h : SActOk w B a A m c) (hb : Below B w w') : SActOk w' B a A m c := ⟨h.kk, h.ss, h.nn, h.rd.below hb, h.mc, h.cc⟩
theorem SActOk.more {w : World} {B B' : Nat} {a : SAct} {A : Option Addr} {m c : Nat} (h : SActOk w B a A m c) (hB : B ≤ B') : SActOk w B' a A m c := ⟨h.kk, h.ss, h.nn, h.rd.more hB, h.mc, h.cc⟩
def RdSA (w : World) (B : Nat) (A : Option Addr) (n : Nat) (l : List SAct) : Prop :=
 l.length = n ∧ (0 < n → ∃ b o, A = some ⟨b, o, none⟩ ∧ b < B ∧ ∀ j, j < n → ∃ A' m c, w.rangeAt b (o + j * 5) (sactL (l.getD j SAct.zero) A' m c) ∧ SActOk w B (l.getD j SAct.zero) A' m c)
theorem RdSA.below {w w' : World} {B n : Nat} {A : Option Addr} {l : List SAct} (h : RdSA w B A n l) (hb : Below B w w') : RdSA w' B A n l :=
 ⟨h.1, fun hn => by
  obtain ⟨b, o, e, hB, hc⟩ := h.2 hn
  refine ⟨b, o, e, hB, fun j hj => ?_⟩
  obtain ⟨A', m, c, h1, h2⟩ := hc j hj
  exact ⟨A', m, c, fun i v hv => (hb.cell (by exact hB)).trans (h1 i v hv), h2.below hb⟩⟩
theorem RdSA.more {w : World} {B B' n : Nat} {A : Option Addr} {l : List SAct} (h : RdSA w B A n l) (hB : B ≤ B') : RdSA w B' A n l :=
 ⟨h.1, fun hn => by
  obtain ⟨b, o, e, hb, hc⟩ := h.2 hn
  refine ⟨b, o, e, by omega, fun j hj => ?_⟩
  obtain ⟨A', m, c, h1, h2⟩ := hc j hj
  exact ⟨A', m, c, h1, h2.more hB⟩⟩
theorem RdSA.to {w w' : World} {n : Nat} {A : Option Addr} {l : List SAct} (h : RdSA w w.heap.size A n l) (hb : Below w.heap.size w w') : RdSA w' w'.heap.size A n l := (h.below hb).more hb.size
section
variable {H : Type} {enc : TypeId × Value → H} {W : World} {base : Nat} {held : Bool}
theorem trod_sact {n : Nat} {cs : List Value} {x : DataW H × List MemPlace} (h : DataW.trod enc Tryz.prog W base (fun _ => true) held n 33 cs = some x) (hw : ∀ y ∈ x.1.weights Tryz.prog 33, y ≤ reachBytes) :
  ∃ a A m c, cs = sactL a A m c ∧ SActOk W W.heap.size a A m c := by
 obtain ⟨xs, k, rfl, hxx, hl, hxl, hf⟩ := DataW.trod_struct Tryz.underlying33 h
 have hl3 : cs.length = 5 := by rw [hl]; kernel_rfl
 have e1 : Tryz.prog.cellsOf 3 = 1 := by kernel_rfl
 have e4 : Tryz.prog.cellsOf 31 = 1 := by kernel_rfl
 have e5 : Tryz.prog.cellsOf 4 = 1 := by kernel_rfl
 have h0 : DataW.trod enc Tryz.prog W base (fun _ => true) held k 3 ((cs.drop 0).take (Tryz.prog.cellsOf 3)) = xs[0]? := hf 0 _ rfl
 have h1 : DataW.trod enc Tryz.prog W base (fun _ => true) held k 3 ((cs.drop 1).take (Tryz.prog.cellsOf 3)) = xs[1]? := hf 1 _ rfl
 have h2 : DataW.trod enc Tryz.prog W base (fun _ => true) held k 3 ((cs.drop 2).take (Tryz.prog.cellsOf 3)) = xs[2]? := hf 2 _ rfl
 have h4 : DataW.trod enc Tryz.prog W base (fun _ => true) held k 31 ((cs.drop 3).take (Tryz.prog.cellsOf 31)) = xs[3]? := hf 3 _ rfl
 have h5 : DataW.trod enc Tryz.prog W base (fun _ => true) held k 4 ((cs.drop 4).take (Tryz.prog.cellsOf 4)) = xs[4]? := hf 4 _ rfl
 have hx3 : xs.length = 5 := hxl
 rw [e1, List.getElem?_eq_getElem (by omega)] at h0 h1 h2
 rw [e4, List.getElem?_eq_getElem (by omega)] at h4
 rw [e5, List.getElem?_eq_getElem (by omega)] at h5
 match cs, hl3 with
 | [c0, c1, c2, c4, c5], hl3 =>
  simp only [List.drop_succ_cons, List.drop_zero, List.take_succ_cons, List.take_zero] at h0 h1 h2 h4 h5
  obtain ⟨z0, g0, _, w0⟩ := DataW.trod_int Tryz.underlying3 h0
  obtain ⟨z1, g1, _, w1⟩ := DataW.trod_int Tryz.underlying3 h1
  obtain ⟨z2, g2, _, w2⟩ := DataW.trod_int Tryz.underlying3 h2
  obtain ⟨z5, g5, _⟩ := DataW.trod_bool Tryz.underlying4 h5
  simp only [List.cons.injEq, and_true] at g0 g1 g2 g5
  subst g0; subst g1; subst g2; subst g5
  have hwt : ∀ y ∈ (xs[3]'(by omega)).1.weights Tryz.prog 31, y ≤ reachBytes := fun y hy => hw y (by
   rw [hxx]
   simp only [DataW.weights, Tryz.underlying33]
   exact DataW.weights_mem_each (j := 3) rfl (by rw [List.getElem?_map, List.getElem?_eq_getElem (by omega)]; rfl) y hy)
  have hB : ∃ A m c bs, c4 = .slice A m c ∧ Rd W W.heap.size A m bs ∧ m ≤ c ∧ c ≤ 140737488351232 := by
   rcases open_ints Tryz.underlying31 Tryz.underlying5 (by kernel_rfl) h4 with ⟨hcs, _⟩ | ⟨x, l, c, zs, hcs, _, hl, hm, hz, hdx, hcell, hwz⟩
   ·simp only [List.cons.injEq, and_true] at hcs
    exact ⟨none, 0, 0, [], hcs, Rd.nil _ _ _, by decide, by decide⟩
   ·simp only [List.cons.injEq, and_true] at hcs
    have hR : IsRow .u8 W (some x) l c zs := .inr ⟨_, rfl, hl, hm, by simpa using hz, hcell, hwz⟩
    obtain ⟨r1, r2, r3⟩ := hR.rd
    have hz' : zs.length = c := by simpa using hz
    have hcc : c ≤ reachBytes := by
     have be : Tryz.prog.bytesOf 5 = 1 := by kernel_rfl
     have hdd := congrArg Prod.fst hdx
     simp only at hdd
     have := hwt c (by
      rw [hdd]
      simp only [DataW.weights, Tryz.underlying31, be]
      refine List.mem_cons.2 (.inl ?_)
      simp [lits]
      omega)
     exact this
    exact ⟨_, _, _, _, hcs, r1, r2, by unfold reachBytes at hcc; omega⟩
  obtain ⟨A, m, c, bs, rfl, hr, hmc, hcc⟩ := hB
  exact ⟨⟨z0, z1, z2, bs, z5⟩, A, m, c, rfl, ⟨wf_i64 w0, wf_i64 w1, wf_i64 w2, hr, hmc, hcc⟩⟩
theorem open_sact {r : Reach} {b0 : Nat} {v : Value} {d : DataW H} {ps : List MemPlace} (hval : Value.okWide Tryz.prog W r b0 33 v) (hd : DataW.Trod enc Tryz.prog W base (fun _ => true) held 33 v d ps)
  (hw : ∀ y ∈ d.weights Tryz.prog 33, y ≤ reachBytes) : ∃ a A m c, v = .agg (sactL a A m c).toArray ∧ SActOk W W.heap.size a A m c := by
 obtain ⟨cs, rfl, _⟩ := okWide_struct Tryz.underlying33 hval
 obtain ⟨fuel, hf⟩ := hd
 obtain ⟨a, A, m, c, hcs, hok⟩ := trod_sact hf hw
 refine ⟨a, A, m, c, ?_, hok⟩
 have h : cs.toList = sactL a A m c := by simpa [Value.cells] using hcs
 rw [← h]
theorem open_sacts {r : Reach} {b0 : Nat} {v : Value} {d : DataW H} {ps : List MemPlace} (hval : Value.okWide Tryz.prog W r b0 22 v) (hd : DataW.Trod enc Tryz.prog W base (fun _ => true) held 22 v d ps)
  (hw : ∀ y ∈ d.weights Tryz.prog 22, y ≤ reachBytes) :
  ∃ a len cap l, v = .slice a len cap ∧ RdSA W W.heap.size a len l ∧ len ≤ cap ∧ cap * 56 ≤ 140737488351232 := by
 obtain ⟨a, len, cap, rfl⟩ := okWide_slice Tryz.underlying22 hval
 obtain ⟨fuel, hf⟩ := hd
 have e3 : Tryz.prog.cellsOf 33 = 5 := by kernel_rfl
 rcases open_slice Tryz.underlying22 hf with ⟨hcs, _⟩ | ⟨x, l, c, m, n, D, Pl, hcs, hbx, hl, hm, hmm, hx, hi⟩
 ·simp [Value.cells] at hcs
  obtain ⟨rfl, rfl, rfl⟩ := hcs
  exact ⟨none, 0, 0, [], rfl, ⟨rfl, fun h => absurd h (Nat.lt_irrefl 0)⟩, by omega, by omega⟩
 ·simp [Value.cells] at hcs
  obtain ⟨rfl, rfl, rfl⟩ := hcs
  have hmc : m = cap := by simpa using hmm
  subst hmc
  rw [e3] at hi
  have hdd := congrArg Prod.fst hx
  simp only at hdd
  have b56 : Tryz.prog.bytesOf 33 = 56 := by kernel_rfl
  have hcap : m * 56 ≤ reachBytes := by
   have := hw (m * 56) (by
    rw [hdd]
    simp only [DataW.weights, Tryz.underlying22, b56]
    refine List.mem_cons.2 (.inl ?_)
    simp
    omega)
   exact this
  have hwD : ∀ i, i < m → ∀ y ∈ (D i).weights Tryz.prog 33, y ≤ reachBytes := fun i him y hy => hw y (by
   rw [hdd]
   simp only [DataW.weights, Tryz.underlying22]
   refine List.mem_cons_of_mem _ ?_
   by_cases h : i < len
   ·exact List.mem_append_left _ (mem_weightsAll (List.mem_map.2 ⟨i, List.mem_range.2 h, rfl⟩) hy)
   ·exact List.mem_append_right _ (mem_weightsAll (List.mem_map.2 ⟨i - len, List.mem_range.2 (by omega), by rw [show len + (i - len) = i from by omega]⟩) hy))
  have each : ∀ i, i < m → ∃ f A' m' c', (∀ j v, (sactL f A' m' c')[j]? = some v → W.cell? ((x.add (i * 5)).add j) = some v) ∧ SActOk W W.heap.size f A' m' c' := by
   intro i hi'
   obtain ⟨cs', h1, h2⟩ := hi i hi'
   obtain ⟨f, A', m', c', rfl, hok⟩ := trod_sact h2 (hwD i hi')
   obtain ⟨_, h4, h5⟩ := World.cells?_some h1
   refine ⟨f, A', m', c', fun j v hv => ?_, hok⟩
   have hj : j < 5 := by
    rcases Nat.lt_or_ge j 5 with g | g
    ·exact g
    ·rw [List.getElem?_eq_none (by simpa [sactL] using g)] at hv; cases hv
   rw [h5 j hj]; exact hv
  have hch : ∃ F : Nat → SAct, ∀ i, i < m → ∃ A' m' c', (∀ j v, (sactL (F i) A' m' c')[j]? = some v → W.cell? ((x.add (i * 5)).add j) = some v) ∧ SActOk W W.heap.size (F i) A' m' c' := by
   refine ⟨fun i => if h : i < m then Classical.choose (each i h) else SAct.zero, fun i h => ?_⟩
   simp only [dif_pos h]
   exact Classical.choose_spec (each i h)
  obtain ⟨F, hF⟩ := hch
  refine ⟨some x, len, m, (List.range len).map F, rfl, ⟨by simp, fun h0 => ?_⟩, hl, by unfold reachBytes at hcap; omega⟩
  obtain ⟨b, o, s⟩ := x
  obtain ⟨A0, m0, c0, h00, _⟩ := hF 0 (by omega)
  have hc0 := h00 0 _ rfl
  obtain rfl : s = none := by simpa [Addr.add] using World.cell?_spot hc0
  refine ⟨b, o, rfl, ?_, fun j hj => ?_⟩
  ·rw [add_none, add_none] at hc0
   exact cell_block hc0
  ·obtain ⟨A', m', c', h1, h2⟩ := hF j (by omega)
   have e : ((List.range len).map F).getD j SAct.zero = F j := by simp [List.getD, hj]
   rw [e]
   refine ⟨A', m', c', fun i v hv => ?_, h2⟩
   have := h1 i v hv
   rwa [add_none, add_none] at this
end
end
section
open Go.RowKit
def SGrRel (l : List SAct) (n i : Value) (wr : World) (w : World) : Prop :=
 ∃ k s : Nat, k ≤ l.length ∧ s ≤ 6000 ∧ k * 100 ≤ s ∧ n = .int .i64 (s : Int) ∧ i = .int .i64 (k : Int) ∧ w = wr ∧ ∀ j, j < k → (l.getD j SAct.zero).b.length ≤ 6000
def SFew (l : List SAct) : Prop := l.length ≤ 60 ∧ ∀ j, j < l.length → (l.getD j SAct.zero).b.length ≤ 6000
theorem sGreat (A : Option Addr) (n c : Nat) (l : List SAct) (w : World) (h : RdSA w w.heap.size A n l) (hn : n ≤ 140737488351232) :
  Calls Tryz.prog 4 #[.slice A n c] w fun e w' => ∃ g, e = .returned (.bool g) ∧ w = w' ∧ (g = false → SFew l) := by
 have H := qH h
 have HL := qH h.1
 clear h
 go_enter Tryz.func4, Tryz.ntmps4
 go_wp2_with fail
 go_loopw [3, 4] (fun s i wr => SGrRel l s i wr w) (fun _ i _ => n - (intOf i).toNat)
 case atStart => exact ⟨0, 0, Nat.zero_le _, Nat.zero_le _, Nat.le_refl _, rfl, rfl, rfl, fun j hj => absurd hj (Nat.not_lt_zero _)⟩
 case round =>
  obtain ⟨k, s, hk, hs, hks, rfl, rfl, rfl, hj⟩ := hrel
  rw [HL.out] at hk
  have HJ := qH hj
  have HS : Hid (s ≤ 6000) := hs
  have HKS : Hid (k * 100 ≤ s) := hks
  have HK : Hid (k ≤ n) := hk
  clear hj
  by_cases hlt : k < n
  ·have HLT : Hid (k < n) := hlt
   obtain ⟨b, o, rfl, hb, hc⟩ := H.out.2 (by omega)
   obtain ⟨A', m, cc, h1, h2⟩ := hc k hlt
   have c2 : w.cell? ⟨b, o + k * 5 + 3, none⟩ = some (.slice A' m cc) := h1 3 _ rfl
   have hm : m = (l.getD k SAct.zero).b.length := h2.rd.1.symm
   have hmc := h2.mc
   have hcc := h2.cc
   have hsI : (s : Int) < 6001 := by omega
   have hmI : (m : Int) < 140737488351233 := by omega
   have hkI : (k : Int) < (n : Int) := by omega
   have hnI : (n : Int) < 140737488351233 := by omega
   have HM := qH hm
   clear hc h1 h2 hm hs hks hk hmc hcc
   by_cases hbig : (s : Int) + m + 100 > 6000
   ·go_wp2_with fail
    go_ret
    exact ⟨true, rfl, rfl, fun h => by cases h⟩
   ·have hbig' : ¬ ((s : Int) + m + 100 > 6000) := hbig
    go_wp2_with fail
    go_roundw
    case rel =>
     refine ⟨k + 1, s + m + 100, by rw [HL.out]; exact HLT.out, by omega, by have := HKS.out; omega, by go_num, by go_num, rfl, fun j hj => ?_⟩
     by_cases e : j = k
     ·subst e; rw [← HM.out]; omega
     ·exact HJ.out j (by omega)
    case measure => have := HLT.out; simp [intOf]; omega
  ·obtain rfl : k = n := by have := HK.out; omega
   have hsI : (s : Int) < 6001 := by omega
   have hnI : (k : Int) < 140737488351233 := by omega
   clear hs hks hk
   go_wp2_with fail
   go_ret
   exact ⟨false, rfl, rfl, fun _ => ⟨by rw [HL.out]; have := HS.out; have := HKS.out; omega, fun j hj => HJ.out j (by rw [HL.out] at hj; exact hj)⟩⟩
theorem sact_box (w : World) (a b c d e : Value) (T : TypeId) (hc : a.oneCell' = true) : (w.alloc (.cells #[a, b, c, d, e] T)).cell? ⟨w.heap.size, 0, none⟩ = some a ∧ (w.alloc (.cells #[a, b, c, d, e] T)).cell? ⟨w.heap.size, 1, none⟩ = some b ∧ (w.alloc (.cells #[a, b, c, d, e] T)).cell? ⟨w.heap.size, 2, none⟩ = some c ∧
  (w.alloc (.cells #[a, b, c, d, e] T)).cell? ⟨w.heap.size, 3, none⟩ = some d ∧ (w.alloc (.cells #[a, b, c, d, e] T)).cell? ⟨w.heap.size, 4, none⟩ = some e := by
 refine ⟨?_, ?_, ?_, ?_, ?_⟩ <;> simp
end
section
open Go.RowKit Go.Shelf
def OneTo (w : World) (d : Nat) (F : Nat → Prop) (r : Nat) (G : Nat → Prop) (s : DS) (e : Ending) (w' : World) : Prop :=
 e = .returned (.bool true) ∧ ∃ F' G' s', Did2 w w' d F F' r G G' s' ∧ s'.L.length = s.L.length
theorem flush_lenS (s : DS) : s.flush.2.L.length = s.L.length := by
 unfold DS.flush
 split
 ·rfl
 ·split
  ·exact fallL_length _ _ _
  ·exact fallL_length _ _ _
theorem crash_lenS (s : DS) (b : List UInt8) : (s.crash b).2.L.length = s.L.length := by
 unfold DS.crash
 split
 ·rfl
 ·exact fallL_length _ _ _
theorem arm_lenS (s : DS) (i : Int) (b : List UInt8) : (s.arm i b).2.L.length = s.L.length := by
 unfold DS.arm
 split
 ·rfl
 ·split <;> rfl
theorem start_lenS (s : DS) : s.start.2.L.length = s.L.length := by
 unfold DS.start
 split <;> rfl
theorem rd_len {w : World} {B n m : Nat} {A : Option Addr} {bs : List UInt8} (h : Rd w B A n bs) (hb : bs.length ≤ m) : n ≤ m := by rw [← h.1]; exact hb
theorem getS_len4 (sl n : Int) (hash : List UInt8) (s : DS) : (getS sl n hash s).1.length ≤ 4096 := by
 unfold getS
 split
 ·exact Nat.zero_le _
 ·split
  ·exact readS_len4 _ _ _
  ·exact Nat.zero_le _
theorem u8_inc3 (n : Nat) : (((n : Int) + 1) % 256) = ((UInt8.ofNat (n + 1)).toNat : Int) := by
 have h := u8_inc n
 rw [IntKind.wrap_u8] at h
 exact h
def incT (bs : List UInt8) (j : Nat) : List UInt8 := bs.set j (UInt8.ofNat (nth bs j + 1))
theorem tag_inc {w : World} {g j : Nat} {bs : List UInt8} (h : TagAt w g bs) : TagAt (w.setCell ⟨g, j, none⟩ (.int .u8 (((nth bs j : Nat) + 1 : Int) % 256))) g (incT bs j) := by
 rw [u8_inc3]
 exact h.set _
theorem Pair.set {w : World} {d r : Nat} {F G : Nat → Prop} {s : DS} (h : Pair w d F r G s) (p : Addr) (v : Value) (hn : ∀ k, F k ∨ G k → k ≠ p.block) : Pair (w.setCell p v) d F r G s :=
 ⟨h.dk.kept (R := (· = p.block)) ((Keep.refl _ _).setCell p v rfl) (fun k hk e => hn k (.inl hk) e), h.dr.kept (R := (· = p.block)) ((Keep.refl _ _).setCell p v rfl) (fun k hk e => hn k (.inr hk) e), h.off⟩
theorem kindsS (k : Int) : k = 0 ∨ k = 1 ∨ k = 2 ∨ k = 3 ∨ k = 4 ∨ k = 5 ∨ k = 6 ∨ k = 7 ∨ k = 8 ∨ (¬ k = 0 ∧ ¬ k = 1 ∧ ¬ k = 2 ∧ ¬ k = 3 ∧ ¬ k = 4 ∧ ¬ k = 5 ∧ ¬ k = 6 ∧ ¬ k = 7 ∧ ¬ k = 8) := by omega
theorem sOne (d r : Nat) (F G : Nat → Prop) (s : DS) (x : SAct) (A : Option Addr) (m c : Nat) (w : World) (hp : Pr w) (h : Pair w d F r G s) (hl : 0 < s.L.length) (hx : SActOk w w.heap.size x A m c) (ho : Off A m (fun k => F k ∨ G k)) (hm : m ≤ 6000) :
  Calls Tryz.prog 7 #[.pointer (some ⟨d, 0, none⟩), .pointer (some ⟨r, 0, none⟩), .agg (sactL x A m c).toArray] w (OneTo w d F r G s) := by
 obtain ⟨c0, c1, c2, c3, c4⟩ := sact_box w (.int .i64 x.kind) (.int .i64 x.slot) (.int .i64 x.n) (.slice A m c) (.bool x.odd) 33 rfl
 have HB : Hid (Below w.heap.size w (w.alloc (.cells #[.int .i64 x.kind, .int .i64 x.slot, .int .i64 x.n, .slice A m c, .bool x.odd] 33))) := (Below.refl _ _).alloc (Nat.le_refl _) _
 have H := qH (h.to HB.out)
 have HP := qH (hp.to HB.out)
 have HPW := qH hp
 have HLN : Hid (0 < s.L.length) := hl
 have HLT : Hid (∀ k, F k ∨ G k → k < w.heap.size) := fun k hk => hk.elim (h.dk.lt k) (h.dr.lt k)
 have R := qH (hx.rd.to HB.out)
 have HO := qH ho
 have HM : Hid (m ≤ 6000) := hm
 have HNN := qH hx.nn
 have HMC := qH hx.mc
 have HCC := qH hx.cc
 obtain ⟨w0, hw0⟩ : ∃ w0, w.alloc (.cells #[.int .i64 x.kind, .int .i64 x.slot, .int .i64 x.n, .slice A m c, .bool x.odd] 33) = w0 := ⟨_, rfl⟩
 have HW0 := qH hw0
 have HG : Hid (w.heap.size < w0.heap.size) := by show _ < _; rw [← hw0]; simp
 rw [hw0] at c0 c1 c2 c3 c4 HB H HP R
 clear h hx ho hm hw0 hp hl
 have HGN : Hid (∀ k, F k ∨ G k → k ≠ w.heap.size) := fun k hk => by have := HLT.out k hk; omega
 obtain ⟨kd, xs, xn, xb, xo⟩ := x
 unfold sactL
 simp only at c0 c1 c2 c3 c4 R HNN
 have C1 := qH c1
 have C2 := qH c2
 have C3 := qH c3
 have C4 := qH c4
 rcases kindsS kd with rfl | rfl | rfl | rfl | rfl | rfl | rfl | rfl | rfl | hkd
 ·skip
  go_enter Tryz.func7, Tryz.ntmps7
  go_wp2_with fail
  rw [HW0.out]
  clear c0 c1 c2 c3 c4
  refine (refCopy A m c xb w0 R.out (by have := HM.out; omega)).mono ?_
  rintro e w4 ⟨A4, n4, c4, rfl, hown, hb⟩
  have O4 := qH hown
  have CP4 := qH (own_cap hown)
  have RD4 := qH (Rd.of_own hown)
  have N4 : Hid (n4 ≤ 6000) := by show _ ≤ _; rw [← RD4.out.1, R.out.1]; exact HM.out
  have P4 := qH (H.out.to hb)
  have R4 := qH (R.out.to hb)
  have OF4 : Hid (Off A4 n4 (fun k => F k ∨ G k)) := own_offP hown (fun k hk => hk.elim (H.out.dk.lt k) (H.out.dr.lt k))
  have B4 := qH hb
  have HG4 : Hid (w.heap.size < w4.heap.size) := Nat.lt_of_lt_of_le HG.out hb.size
  have D1 : Hid (w4.cell? ⟨w.heap.size, 1, none⟩ = some (.int .i64 xs)) := (hb.cell HG.out).trans C1.out
  have D2 : Hid (w4.cell? ⟨w.heap.size, 2, none⟩ = some (.int .i64 xn)) := (hb.cell HG.out).trans C2.out
  have D3 : Hid (w4.cell? ⟨w.heap.size, 3, none⟩ = some (.slice A m c)) := (hb.cell HG.out).trans C3.out
  clear hown hb
  have d1 := D1.out
  have d2 := D2.out
  go_wp2_with fail
  clear d1 d2
  refine (slWrite d F s xs xn A4 n4 c4 xb w4 P4.out.dk HLN.out HNN.out.2 RD4.out (OF4.out.sub (fun _ h => .inl h)) CP4.out.1 CP4.out.2).mono ?_
  rintro e w5 h5
  have h6 := DkSt.to h5
  clear h5
  obtain ⟨rfl, F5, hh⟩ := P4.out.half h6
  have HH := qH hh
  have e1 : w5.cell? ⟨w.heap.size, 1, none⟩ = some (.int .i64 xs) := (hh.keep.cell (a := ⟨w.heap.size, 1, none⟩) HG4.out (fun hf => HGN.out _ (.inl hf) rfl)).trans D1.out
  have e2 : w5.cell? ⟨w.heap.size, 2, none⟩ = some (.int .i64 xn) := (hh.keep.cell (a := ⟨w.heap.size, 2, none⟩) HG4.out (fun hf => HGN.out _ (.inl hf) rfl)).trans D2.out
  have e3 : w5.cell? ⟨w.heap.size, 3, none⟩ = some (.slice A m c) := (hh.keep.cell (a := ⟨w.heap.size, 3, none⟩) HG4.out (fun hf => HGN.out _ (.inl hf) rfl)).trans D3.out
  have RA := qH (R4.out.kept hh.keep (HO.out.sub (fun _ h => .inl h)))
  have RM := qH (RD4.out.kept hh.keep (OF4.out.sub (fun _ h => .inl h)))
  have HG5 : Hid (w.heap.size < w5.heap.size) := Nat.lt_of_lt_of_le HG4.out hh.keep.size
  have HLEN := qH (writeS_len xs xn xb s)
  have E3 := qH e3
  clear h6 hh D1 D2 D3 R4 RD4 P4 O4 CP4
  go_wp2_with fail
  clear e1 e2 e3
  refine (rWriteS r G s xs xn A m c xb w5 HH.out.dr RA.out (HO.out.sub (fun _ h => .inr h))).mono ?_
  rintro e w8 h8
  obtain ⟨rfl, G8, hd⟩ := HH.out.full h8
  obtain ⟨_, _, _, _, hk8⟩ := h8
  have DD := qH hd
  replace RA := qH (RA.out.kept hk8 (HO.out.sub (fun _ h => .inr h)))
  replace RM := qH (RM.out.kept hk8 (OF4.out.sub (fun _ h => .inr h)))
  have e3 : w8.cell? ⟨w.heap.size, 3, none⟩ = some (.slice A m c) := (hk8.cell (a := ⟨w.heap.size, 3, none⟩) HG5.out (fun hf => HGN.out _ (.inr hf) rfl)).trans E3.out
  clear hd hk8 HH E3
  generalize (writeS xs xn xb s).1 = ev at *
  go_wp2_with fail
  clear e3
  refine (refSameBT A4 A n4 m c4 c _ _ w8 rfl RM.out RA.out (by have := N4.out; omega) (by have := HM.out; omega)).mono ?_
  rintro e wz ⟨rfl, hb⟩
  have DDz := qH (DD.out.to hb)
  clear hb RM RA
  have DZ := qH ((DDz.out.after B4.out).after HB.out)
  clear DDz DD
  go_wp2_with fail
  go_ret
  exact ⟨rfl, _, _, _, DZ.out, HLEN.out⟩
 ·skip
  go_enter Tryz.func7, Tryz.ntmps7
  go_wp2_with fail
  rw [HW0.out]
  clear c0 c1 c2 c3 c4
  refine (refCopy A m c xb w0 R.out (by have := HM.out; omega)).mono ?_
  rintro e w4 ⟨A4, n4, c4, rfl, hown, hb⟩
  have O4 := qH hown
  have CP4 := qH (own_cap hown)
  have RD4 := qH (Rd.of_own hown)
  have N4 : Hid (n4 ≤ 6000) := by show _ ≤ _; rw [← RD4.out.1, R.out.1]; exact HM.out
  have P4 := qH (H.out.to hb)
  have R4 := qH (R.out.to hb)
  have OF4 : Hid (Off A4 n4 (fun k => F k ∨ G k)) := own_offP hown (fun k hk => hk.elim (H.out.dk.lt k) (H.out.dr.lt k))
  have B4 := qH hb
  have HG4 : Hid (w.heap.size < w4.heap.size) := Nat.lt_of_lt_of_le HG.out hb.size
  have D1 : Hid (w4.cell? ⟨w.heap.size, 1, none⟩ = some (.int .i64 xs)) := (hb.cell HG.out).trans C1.out
  have D2 : Hid (w4.cell? ⟨w.heap.size, 2, none⟩ = some (.int .i64 xn)) := (hb.cell HG.out).trans C2.out
  have D3 : Hid (w4.cell? ⟨w.heap.size, 3, none⟩ = some (.slice A m c)) := (hb.cell HG.out).trans C3.out
  clear hown hb
  have d1 := D1.out
  have d2 := D2.out
  go_wp2_with fail
  clear d1 d2
  refine (slWrite d F s xs xn A4 n4 c4 xb w4 P4.out.dk HLN.out HNN.out.2 RD4.out (OF4.out.sub (fun _ h => .inl h)) CP4.out.1 CP4.out.2).mono ?_
  rintro e w5 h5
  have h6 := DkSt.to h5
  clear h5
  obtain ⟨rfl, F5, hh⟩ := P4.out.half h6
  have HH := qH hh
  have e1 : w5.cell? ⟨w.heap.size, 1, none⟩ = some (.int .i64 xs) := (hh.keep.cell (a := ⟨w.heap.size, 1, none⟩) HG4.out (fun hf => HGN.out _ (.inl hf) rfl)).trans D1.out
  have e2 : w5.cell? ⟨w.heap.size, 2, none⟩ = some (.int .i64 xn) := (hh.keep.cell (a := ⟨w.heap.size, 2, none⟩) HG4.out (fun hf => HGN.out _ (.inl hf) rfl)).trans D2.out
  have e3 : w5.cell? ⟨w.heap.size, 3, none⟩ = some (.slice A m c) := (hh.keep.cell (a := ⟨w.heap.size, 3, none⟩) HG4.out (fun hf => HGN.out _ (.inl hf) rfl)).trans D3.out
  have RA := qH (R4.out.kept hh.keep (HO.out.sub (fun _ h => .inl h)))
  have RM := qH (RD4.out.kept hh.keep (OF4.out.sub (fun _ h => .inl h)))
  have HG5 : Hid (w.heap.size < w5.heap.size) := Nat.lt_of_lt_of_le HG4.out hh.keep.size
  have HLEN := qH (writeS_len xs xn xb s)
  have E3 := qH e3
  clear h6 hh D1 D2 D3 R4 RD4 P4 O4 CP4
  go_wp2_with fail
  clear e1 e2 e3
  refine (rWriteS r G s xs xn A m c xb w5 HH.out.dr RA.out (HO.out.sub (fun _ h => .inr h))).mono ?_
  rintro e w8 h8
  obtain ⟨rfl, G8, hd⟩ := HH.out.full h8
  obtain ⟨_, _, _, _, hk8⟩ := h8
  have DD := qH hd
  replace RA := qH (RA.out.kept hk8 (HO.out.sub (fun _ h => .inr h)))
  replace RM := qH (RM.out.kept hk8 (OF4.out.sub (fun _ h => .inr h)))
  have e3 : w8.cell? ⟨w.heap.size, 3, none⟩ = some (.slice A m c) := (hk8.cell (a := ⟨w.heap.size, 3, none⟩) HG5.out (fun hf => HGN.out _ (.inr hf) rfl)).trans E3.out
  clear hd hk8 HH E3
  generalize (writeS xs xn xb s).1 = ev at *
  go_wp2_with fail
  clear e3
  refine (refSameBT A4 A n4 m c4 c _ _ w8 rfl RM.out RA.out (by have := N4.out; omega) (by have := HM.out; omega)).mono ?_
  rintro e wz ⟨rfl, hb⟩
  have DDz := qH (DD.out.to hb)
  clear hb RM RA
  have DZ := qH ((DDz.out.after B4.out).after HB.out)
  clear DDz DD
  go_wp2_with fail
  go_ret
  exact ⟨rfl, _, _, _, DZ.out, HLEN.out⟩
 ·skip
  go_enter Tryz.func7, Tryz.ntmps7
  go_wp2_with fail
  rw [HW0.out]
  clear c0 c1 c2 c3 c4
  refine (refCopy A m c xb w0 R.out (by have := HM.out; omega)).mono ?_
  rintro e w4 ⟨A4, n4, c4, rfl, hown, hb⟩
  have O4 := qH hown
  have CP4 := qH (own_cap hown)
  have RD4 := qH (Rd.of_own hown)
  have N4 : Hid (n4 ≤ 6000) := by show _ ≤ _; rw [← RD4.out.1, R.out.1]; exact HM.out
  have P4 := qH (H.out.to hb)
  have R4 := qH (R.out.to hb)
  have OF4 : Hid (Off A4 n4 (fun k => F k ∨ G k)) := own_offP hown (fun k hk => hk.elim (H.out.dk.lt k) (H.out.dr.lt k))
  have B4 := qH hb
  have HG4 : Hid (w.heap.size < w4.heap.size) := Nat.lt_of_lt_of_le HG.out hb.size
  have D1 : Hid (w4.cell? ⟨w.heap.size, 1, none⟩ = some (.int .i64 xs)) := (hb.cell HG.out).trans C1.out
  have D2 : Hid (w4.cell? ⟨w.heap.size, 2, none⟩ = some (.int .i64 xn)) := (hb.cell HG.out).trans C2.out
  have D3 : Hid (w4.cell? ⟨w.heap.size, 3, none⟩ = some (.slice A m c)) := (hb.cell HG.out).trans C3.out
  clear hown hb
  have d1 := D1.out
  have d2 := D2.out
  go_wp2_with fail
  clear d1 d2
  refine (slWrite d F s xs xn A4 n4 c4 xb w4 P4.out.dk HLN.out HNN.out.2 RD4.out (OF4.out.sub (fun _ h => .inl h)) CP4.out.1 CP4.out.2).mono ?_
  rintro e w5 h5
  have h6 := DkSt.to h5
  clear h5
  obtain ⟨rfl, F5, hh⟩ := P4.out.half h6
  have HH := qH hh
  have e1 : w5.cell? ⟨w.heap.size, 1, none⟩ = some (.int .i64 xs) := (hh.keep.cell (a := ⟨w.heap.size, 1, none⟩) HG4.out (fun hf => HGN.out _ (.inl hf) rfl)).trans D1.out
  have e2 : w5.cell? ⟨w.heap.size, 2, none⟩ = some (.int .i64 xn) := (hh.keep.cell (a := ⟨w.heap.size, 2, none⟩) HG4.out (fun hf => HGN.out _ (.inl hf) rfl)).trans D2.out
  have e3 : w5.cell? ⟨w.heap.size, 3, none⟩ = some (.slice A m c) := (hh.keep.cell (a := ⟨w.heap.size, 3, none⟩) HG4.out (fun hf => HGN.out _ (.inl hf) rfl)).trans D3.out
  have RA := qH (R4.out.kept hh.keep (HO.out.sub (fun _ h => .inl h)))
  have RM := qH (RD4.out.kept hh.keep (OF4.out.sub (fun _ h => .inl h)))
  have HG5 : Hid (w.heap.size < w5.heap.size) := Nat.lt_of_lt_of_le HG4.out hh.keep.size
  have HLEN := qH (writeS_len xs xn xb s)
  have E3 := qH e3
  clear h6 hh D1 D2 D3 R4 RD4 P4 O4 CP4
  go_wp2_with fail
  clear e1 e2 e3
  refine (rWriteS r G s xs xn A m c xb w5 HH.out.dr RA.out (HO.out.sub (fun _ h => .inr h))).mono ?_
  rintro e w8 h8
  obtain ⟨rfl, G8, hd⟩ := HH.out.full h8
  obtain ⟨_, _, _, _, hk8⟩ := h8
  have DD := qH hd
  replace RA := qH (RA.out.kept hk8 (HO.out.sub (fun _ h => .inr h)))
  replace RM := qH (RM.out.kept hk8 (OF4.out.sub (fun _ h => .inr h)))
  have e3 : w8.cell? ⟨w.heap.size, 3, none⟩ = some (.slice A m c) := (hk8.cell (a := ⟨w.heap.size, 3, none⟩) HG5.out (fun hf => HGN.out _ (.inr hf) rfl)).trans E3.out
  clear hd hk8 HH E3
  generalize (writeS xs xn xb s).1 = ev at *
  go_wp2_with fail
  clear e3
  refine (refSameBT A4 A n4 m c4 c _ _ w8 rfl RM.out RA.out (by have := N4.out; omega) (by have := HM.out; omega)).mono ?_
  rintro e wz ⟨rfl, hb⟩
  have DDz := qH (DD.out.to hb)
  clear hb RM RA
  have DZ := qH ((DDz.out.after B4.out).after HB.out)
  clear DDz DD
  go_wp2_with fail
  go_ret
  exact ⟨rfl, _, _, _, DZ.out, HLEN.out⟩
 ·skip
  go_enter Tryz.func7, Tryz.ntmps7
  go_wp2_with fail
  rw [HW0.out]
  clear c0 c1 c2 c3 c4
  refine (slRead d F s xs xn w0 H.out.dk HLN.out).mono ?_
  rintro e w3 ⟨A3, n3, c3, rfl, hrd, hnc, hc3, hb⟩
  have RD3 := qH hrd
  have N3 := qH (rd_len hrd (readS_len4 xs xn s))
  have P3 := qH (H.out.to hb)
  have BZ := qH (HB.out.trans (hb.mono HB.out.size))
  have d1 : w3.cell? ⟨w.heap.size, 1, none⟩ = some (.int .i64 xs) := (hb.cell HG.out).trans C1.out
  have d2 : w3.cell? ⟨w.heap.size, 2, none⟩ = some (.int .i64 xn) := (hb.cell HG.out).trans C2.out
  clear hrd hnc hc3 hb
  go_wp2_with fail
  clear d1 d2
  refine (rReadS r G s xs xn w3 P3.out.dr).mono ?_
  rintro e w4 ⟨A4, n4, c4, rfl, hrd, hnc, hc4, hb⟩
  have RD4 := qH hrd
  have N4 := qH (rd_len hrd (readS_len4 xs xn s))
  replace P3 := qH (P3.out.to hb)
  replace BZ := qH (BZ.out.trans (hb.mono BZ.out.size))
  replace RD3 := qH (RD3.out.to hb)
  clear hrd hnc hc4 hb
  generalize (readS xs xn s).2 = ev at *
  generalize (readS xs xn s).1 = bs at *
  go_wp2_with fail
  refine (refSameBT A3 A4 n3 n4 c3 c4 bs bs w4 rfl RD3.out RD4.out (by have := N3.out; omega) (by have := N4.out; omega)).mono ?_
  rintro e w5 ⟨rfl, hb⟩
  have DD := qH ((P3.out.to hb).did.after (BZ.out.trans (hb.mono BZ.out.size)))
  clear RD3 RD4 hb
  go_wp2_with fail
  go_ret
  exact ⟨rfl, _, _, _, DD.out, rfl⟩
 ·skip
  have hz := tag_zero
  go_enter Tryz.func7, Tryz.ntmps7
  go_wp2_with fail
  rw [HW0.out]
  clear c0 c1 c2 c3 c4
  refine (rReadS r G s xs xn w0 H.out.dr).mono ?_
  rintro e w3 ⟨A3, n3, c3, rfl, hrd, hnc, hc3, hb⟩
  have RD3 := qH hrd
  have N3 := qH (rd_len hrd (readS_len4 xs xn s))
  have P3 := qH (H.out.to hb)
  have HP3 := qH (HP.out.to hb)
  have B3 := qH (HB.out.trans (hb.mono HB.out.size))
  have HG3 : Hid (w.heap.size < w3.heap.size) := Nat.lt_of_lt_of_le HG.out hb.size
  have D1 : Hid (w3.cell? ⟨w.heap.size, 1, none⟩ = some (.int .i64 xs)) := (hb.cell HG.out).trans C1.out
  have D2 : Hid (w3.cell? ⟨w.heap.size, 2, none⟩ = some (.int .i64 xn)) := (hb.cell HG.out).trans C2.out
  have D4 : Hid (w3.cell? ⟨w.heap.size, 4, none⟩ = some (.bool xo)) := (hb.cell HG.out).trans C4.out
  clear hrd hnc hc3 hb
  generalize (readS xs xn s).2 = ev3 at *
  go_wp2_with fail
  refine (rSum A3 n3 c3 _ w3 RD3.out (by have := N3.out; omega)).mono ?_
  rintro e w4 ⟨rfl, hb⟩
  obtain ⟨ht, hht⟩ : ∃ ht, shaL (readS xs xn s).1 = ht := ⟨_, rfl⟩
  have HT : Hid (ht.length = 32) := by show _ = _; rw [← hht]; exact shaL_len _
  rw [hht]
  have S4 := qH (tag_size HT.out)
  have E4 : Hid ((arrB zeros32).size = (arrB ht).size) := by
   show _ = _
   rw [arrB_size, arrB_size, HT.out]; rfl
  have P4 := qH (P3.out.to hb)
  have HP4 := qH (HP3.out.to hb)
  have B4 := qH (B3.out.trans (hb.mono B3.out.size))
  have HG4 : Hid (w.heap.size < w4.heap.size) := Nat.lt_of_lt_of_le HG3.out hb.size
  replace D1 : Hid (w4.cell? ⟨w.heap.size, 1, none⟩ = some (.int .i64 xs)) := (hb.cell HG3.out).trans D1.out
  replace D2 : Hid (w4.cell? ⟨w.heap.size, 2, none⟩ = some (.int .i64 xn)) := (hb.cell HG3.out).trans D2.out
  replace D4 : Hid (w4.cell? ⟨w.heap.size, 4, none⟩ = some (.bool xo)) := (hb.cell HG3.out).trans D4.out
  have hb5 : Below w4.heap.size w4 (w4.alloc (.cells (arrB ht) 57)) := (Below.refl _ _).alloc (Nat.le_refl _) _
  have T5 : Hid (TagAt (w4.alloc (.cells (arrB ht) 57)) w4.heap.size ht) := ⟨HT.out, heap_alloc_last w4 _⟩
  have P5 := qH (P4.out.to hb5)
  have HP5 := qH (HP4.out.to hb5)
  have B5 := qH (B4.out.trans (hb5.mono B4.out.size))
  have HG5 : Hid (w.heap.size < (w4.alloc (.cells (arrB ht) 57)).heap.size) := Nat.lt_of_lt_of_le HG4.out hb5.size
  replace D1 : Hid ((w4.alloc (.cells (arrB ht) 57)).cell? ⟨w.heap.size, 1, none⟩ = some (.int .i64 xs)) := (hb5.cell HG4.out).trans D1.out
  replace D2 : Hid ((w4.alloc (.cells (arrB ht) 57)).cell? ⟨w.heap.size, 2, none⟩ = some (.int .i64 xn)) := (hb5.cell HG4.out).trans D2.out
  replace D4 : Hid ((w4.alloc (.cells (arrB ht) 57)).cell? ⟨w.heap.size, 4, none⟩ = some (.bool xo)) := (hb5.cell HG4.out).trans D4.out
  have HGT : Hid (w.heap.size ≠ w4.heap.size) := by show _ ≠ _; have := HG4.out; omega
  have HBT : Hid (∀ k, F k ∨ G k → k ≠ w4.heap.size) := fun k hk e => by have := HLT.out k hk; have := HG4.out; omega
  clear hb hb5 P4 HP4 B4 RD3 hht P3 HP3 B3
  cases xo
  ·go_wp2_with (first | (refine wpList_store_row rfl 57 _ _ rfl w4.heap.size (arrB ht) rfl rfl 57 (arrB zeros32) (heap_alloc_last w4 _) S4.out E4.out (arrB_one _) ?_; rw [World.setRow_alloc_new]; generalize w4.alloc (.cells (arrB ht) 57) = w5 at *; generalize w4.heap.size = gt at *; have d4 := D4.out; have d1 := D1.out; have d2 := D2.out; obtain ⟨t3, f3⟩ := T5.out.cell (j := 3) (by decide)) | (refine wpList_load_row rfl 57 _ rfl gt rfl 57 (arrB ht) (0, 0) _ T5.out.2 Tryz.underlying57 rfl S4.out ?_))
   clear d1 d2 d4 t3 f3 HGT HBT
   have HHL := qH HT.out
   have S1 := qH (tag_size HHL.out)
   refine (slGet d F s xs xn ht w5 HP5.out P5.out.dk HLN.out HHL.out).mono ?_
   rintro e w6 ⟨A6, n6, c6, rfl, hrd, hnc, hc6, hb⟩
   have RD6 := qH hrd
   have N6 := qH (rd_len hrd (getS_len4 xs xn ht s))
   have P6 := qH (P5.out.to hb)
   have T6 := qH (T5.out.below hb)
   have B6 := qH (B5.out.trans (hb.mono B5.out.size))
   have d1 : w6.cell? ⟨w.heap.size, 1, none⟩ = some (.int .i64 xs) := (hb.cell HG5.out).trans D1.out
   have d2 : w6.cell? ⟨w.heap.size, 2, none⟩ = some (.int .i64 xn) := (hb.cell HG5.out).trans D2.out
   clear hrd hnc hc6 hb P5 T5 B5 HP5
   go_wp2_with (first | (refine wpList_load_row rfl 57 _ rfl gt rfl 57 (arrB ht) (0, 0) _ T6.out.2 Tryz.underlying57 rfl S1.out ?_))
   clear d1 d2
   refine (rGetS r G s xs xn ht w6 P6.out.dr HHL.out).mono ?_
   rintro e w7 ⟨A7, n7, c7, rfl, hrd, hnc, hc7, hb⟩
   have RD7 := qH hrd
   have N7 := qH (rd_len hrd (getS_len4 xs xn ht s))
   have P7 := qH (P6.out.to hb)
   have B7 := qH (B6.out.trans (hb.mono B6.out.size))
   replace RD6 := qH (RD6.out.to hb)
   clear hrd hnc hc7 hb P6 T6 B6
   generalize (getS xs xn ht s).2 = ev at *
   generalize (getS xs xn ht s).1 = bs at *
   go_wp2_with fail
   refine (refSameBT A6 A7 n6 n7 c6 c7 bs bs w7 rfl RD6.out RD7.out (by have := N6.out; omega) (by have := N7.out; omega)).mono ?_
   rintro e w8 ⟨rfl, hb⟩
   have DD := qH ((P7.out.to hb).did.after (B7.out.trans (hb.mono B7.out.size)))
   clear RD6 RD7 hb
   go_wp2_with fail
   go_ret
   exact ⟨rfl, _, _, _, DD.out, rfl⟩
  ·go_wp2_with (first | (refine wpList_store_row rfl 57 _ _ rfl w4.heap.size (arrB ht) rfl rfl 57 (arrB zeros32) (heap_alloc_last w4 _) S4.out E4.out (arrB_one _) ?_; rw [World.setRow_alloc_new]; generalize w4.alloc (.cells (arrB ht) 57) = w5 at *; generalize w4.heap.size = gt at *; have d4 := D4.out; have d1 := D1.out; have d2 := D2.out; obtain ⟨t3, f3⟩ := T5.out.cell (j := 3) (by decide)) | (refine wpList_load_row rfl 57 _ rfl gt rfl 57 (arrB (incT ht 3)) (0, 0) _ (tag_inc T5.out).2 Tryz.underlying57 rfl (tag_size (tag_inc T5.out).1) ?_))
   have TS := tag_inc (j := 3) T5.out
   have hle : w.heap.size ≤ gt := by have h1 := HG4.out; omega
   have b5 := B5.out.setCell (p := ⟨gt, 3, none⟩) hle (.int .u8 (((nth ht 3 : Nat) + 1 : Int) % 256))
   have p5 := P5.out.set ⟨gt, 3, none⟩ (.int .u8 (((nth ht 3 : Nat) + 1 : Int) % 256)) HBT.out
   have g5 : w.heap.size < (w5.setCell ⟨gt, 3, none⟩ (.int .u8 (((nth ht 3 : Nat) + 1 : Int) % 256))).heap.size := by have := HG5.out; simpa using this
   have e1 : (w5.setCell ⟨gt, 3, none⟩ (.int .u8 (((nth ht 3 : Nat) + 1 : Int) % 256))).cell? ⟨w.heap.size, 1, none⟩ = some (.int .i64 xs) := (World.cell?_setCell_other _ _ _ _ (fun e => HGT.out (by injection e with e; exact e.symm))).trans D1.out
   have e2 : (w5.setCell ⟨gt, 3, none⟩ (.int .u8 (((nth ht 3 : Nat) + 1 : Int) % 256))).cell? ⟨w.heap.size, 2, none⟩ = some (.int .i64 xn) := (World.cell?_setCell_other _ _ _ _ (fun e => HGT.out (by injection e with e; exact e.symm))).trans D2.out
   have hp5 := HPW.out.to b5
   clear d1 d2 d4 t3 f3 HGT HBT T5 P5 HP5 B5 HG5 D1 D2 D4 hle S4
   obtain ⟨hs, hhs⟩ : ∃ hs, incT ht 3 = hs := ⟨_, rfl⟩
   rw [hhs] at TS ⊢
   obtain ⟨w6, hw6⟩ : ∃ X, w5.setCell ⟨gt, 3, none⟩ (.int .u8 (((nth ht 3 : Nat) + 1 : Int) % 256)) = X := ⟨_, rfl⟩
   rw [hw6] at TS b5 p5 g5 e1 e2 hp5 ⊢
   clear hhs hw6 HT w5
   have HHL := qH TS.1
   have T5 := qH TS
   have P5 := qH p5
   have HP5 := qH hp5
   have B5 := qH b5
   have HG5 := qH g5
   have D1 := qH e1
   have D2 := qH e2
   have d1 := D1.out
   have d2 := D2.out
   clear TS p5 hp5 b5 g5 e1 e2
   have S1 := qH (tag_size HHL.out)
   clear d1 d2
   refine (slGet d F s xs xn hs w6 HP5.out P5.out.dk HLN.out HHL.out).mono ?_
   rintro e w9 ⟨A6, n6, c6, rfl, hrd, hnc, hc6, hb⟩
   have RD6 := qH hrd
   have N6 := qH (rd_len hrd (getS_len4 xs xn hs s))
   have P6 := qH (P5.out.to hb)
   have T6 := qH (T5.out.below hb)
   have B6 := qH (B5.out.trans (hb.mono B5.out.size))
   have d1 : w9.cell? ⟨w.heap.size, 1, none⟩ = some (.int .i64 xs) := (hb.cell HG5.out).trans D1.out
   have d2 : w9.cell? ⟨w.heap.size, 2, none⟩ = some (.int .i64 xn) := (hb.cell HG5.out).trans D2.out
   clear hrd hnc hc6 hb P5 T5 B5 HP5
   go_wp2_with (first | (refine wpList_load_row rfl 57 _ rfl gt rfl 57 (arrB hs) (0, 0) _ T6.out.2 Tryz.underlying57 rfl S1.out ?_))
   clear d1 d2
   refine (rGetS r G s xs xn hs w9 P6.out.dr HHL.out).mono ?_
   rintro e w7 ⟨A7, n7, c7, rfl, hrd, hnc, hc7, hb⟩
   have RD7 := qH hrd
   have N7 := qH (rd_len hrd (getS_len4 xs xn hs s))
   have P7 := qH (P6.out.to hb)
   have B7 := qH (B6.out.trans (hb.mono B6.out.size))
   replace RD6 := qH (RD6.out.to hb)
   clear hrd hnc hc7 hb P6 T6 B6
   generalize (getS xs xn hs s).2 = ev at *
   generalize (getS xs xn hs s).1 = bs at *
   go_wp2_with fail
   refine (refSameBT A6 A7 n6 n7 c6 c7 bs bs w7 rfl RD6.out RD7.out (by have := N6.out; omega) (by have := N7.out; omega)).mono ?_
   rintro e w8 ⟨rfl, hb⟩
   have DD := qH ((P7.out.to hb).did.after (B7.out.trans (hb.mono B7.out.size)))
   clear RD6 RD7 hb
   go_wp2_with fail
   go_ret
   exact ⟨rfl, _, _, _, DD.out, rfl⟩
 ·skip
  go_enter Tryz.func7, Tryz.ntmps7
  go_wp2_with fail
  rw [HW0.out]
  clear c0 c1 c2 c3 c4
  have HLEN := qH (flush_lenS s)
  refine (dFlush d F s w0 H.out.dk).mono ?_
  rintro e w1 h6
  obtain ⟨rfl, F1, hh⟩ := H.out.half h6
  have HH := qH hh
  have D2 : Hid (w1.cell? ⟨w.heap.size, 2, none⟩ = some (.int .i64 xn)) := (hh.keep.cell (a := ⟨w.heap.size, 2, none⟩) HG.out (fun hf => HGN.out _ (.inl hf) rfl)).trans C2.out
  have D3 : Hid (w1.cell? ⟨w.heap.size, 3, none⟩ = some (.slice A m c)) := (hh.keep.cell (a := ⟨w.heap.size, 3, none⟩) HG.out (fun hf => HGN.out _ (.inl hf) rfl)).trans C3.out
  have R1 := qH (R.out.kept hh.keep (HO.out.sub (fun _ h => .inl h)))
  clear h6 hh
  have d2 := D2.out
  have d3 := D3.out
  go_wp2_with fail
  clear d2 d3
  refine (qFlush r G s w1 HH.out.dr).mono ?_
  rintro e w2 h6
  obtain ⟨rfl, G2, hd⟩ := HH.out.full h6
  have DD := qH hd
  clear h6 hd
  go_wp2_with fail
  go_ret
  exact ⟨rfl, _, _, _, DD.out.after HB.out, HLEN.out⟩
 ·skip
  go_enter Tryz.func7, Tryz.ntmps7
  go_wp2_with fail
  rw [HW0.out]
  clear c0 c1 c2 c3 c4
  have HLEN := qH (crash_lenS s xb)
  refine (dCrash d F s A m c xb w0 H.out.dk R.out HMC.out (by have := HCC.out; omega)).mono ?_
  rintro e w1 h6
  obtain ⟨rfl, F1, hh⟩ := H.out.half h6
  have HH := qH hh
  have D2 : Hid (w1.cell? ⟨w.heap.size, 2, none⟩ = some (.int .i64 xn)) := (hh.keep.cell (a := ⟨w.heap.size, 2, none⟩) HG.out (fun hf => HGN.out _ (.inl hf) rfl)).trans C2.out
  have D3 : Hid (w1.cell? ⟨w.heap.size, 3, none⟩ = some (.slice A m c)) := (hh.keep.cell (a := ⟨w.heap.size, 3, none⟩) HG.out (fun hf => HGN.out _ (.inl hf) rfl)).trans C3.out
  have R1 := qH (R.out.kept hh.keep (HO.out.sub (fun _ h => .inl h)))
  clear h6 hh
  have d2 := D2.out
  have d3 := D3.out
  go_wp2_with fail
  clear d2 d3
  refine (qCrash r G s A m c xb w1 HH.out.dr R1.out (HO.out.sub (fun _ h => .inr h))).mono ?_
  rintro e w2 h6
  obtain ⟨rfl, G2, hd⟩ := HH.out.full h6
  have DD := qH hd
  clear h6 hd
  go_wp2_with fail
  go_ret
  exact ⟨rfl, _, _, _, DD.out.after HB.out, HLEN.out⟩
 ·skip
  go_enter Tryz.func7, Tryz.ntmps7
  go_wp2_with fail
  rw [HW0.out]
  clear c0 c1 c2 c3 c4
  have HLEN := qH (start_lenS s)
  refine (dStart d F s w0 H.out.dk).mono ?_
  rintro e w1 h6
  obtain ⟨rfl, F1, hh⟩ := H.out.half h6
  have HH := qH hh
  have D2 : Hid (w1.cell? ⟨w.heap.size, 2, none⟩ = some (.int .i64 xn)) := (hh.keep.cell (a := ⟨w.heap.size, 2, none⟩) HG.out (fun hf => HGN.out _ (.inl hf) rfl)).trans C2.out
  have D3 : Hid (w1.cell? ⟨w.heap.size, 3, none⟩ = some (.slice A m c)) := (hh.keep.cell (a := ⟨w.heap.size, 3, none⟩) HG.out (fun hf => HGN.out _ (.inl hf) rfl)).trans C3.out
  have R1 := qH (R.out.kept hh.keep (HO.out.sub (fun _ h => .inl h)))
  clear h6 hh
  have d2 := D2.out
  have d3 := D3.out
  go_wp2_with fail
  clear d2 d3
  refine (qStart r G s w1 HH.out.dr).mono ?_
  rintro e w2 h6
  obtain ⟨rfl, G2, hd⟩ := HH.out.full h6
  have DD := qH hd
  clear h6 hd
  go_wp2_with fail
  go_ret
  exact ⟨rfl, _, _, _, DD.out.after HB.out, HLEN.out⟩
 ·skip
  go_enter Tryz.func7, Tryz.ntmps7
  go_wp2_with fail
  rw [HW0.out]
  clear c0 c1 c2 c3 c4
  have HLEN := qH (arm_lenS s xn xb)
  refine (dArm d F s xn A m c xb w0 H.out.dk HNN.out.2 R.out HMC.out (by have := HCC.out; omega)).mono ?_
  rintro e w1 h6
  obtain ⟨rfl, F1, hh⟩ := H.out.half h6
  have HH := qH hh
  have D2 : Hid (w1.cell? ⟨w.heap.size, 2, none⟩ = some (.int .i64 xn)) := (hh.keep.cell (a := ⟨w.heap.size, 2, none⟩) HG.out (fun hf => HGN.out _ (.inl hf) rfl)).trans C2.out
  have D3 : Hid (w1.cell? ⟨w.heap.size, 3, none⟩ = some (.slice A m c)) := (hh.keep.cell (a := ⟨w.heap.size, 3, none⟩) HG.out (fun hf => HGN.out _ (.inl hf) rfl)).trans C3.out
  have R1 := qH (R.out.kept hh.keep (HO.out.sub (fun _ h => .inl h)))
  clear h6 hh
  have d2 := D2.out
  have d3 := D3.out
  go_wp2_with fail
  clear d2 d3
  refine (qArm r G s xn A m c xb w1 HH.out.dr HNN.out.2 R1.out (by have := HM.out; omega) (HO.out.sub (fun _ h => .inr h))).mono ?_
  rintro e w2 h6
  obtain ⟨rfl, G2, hd⟩ := HH.out.full h6
  have DD := qH hd
  clear h6 hd
  go_wp2_with fail
  go_ret
  exact ⟨rfl, _, _, _, DD.out.after HB.out, HLEN.out⟩
 ·obtain ⟨k0, k1, k2, k3, k4, k5, k6, k7, k8⟩ := hkd
  go_enter Tryz.func7, Tryz.ntmps7
  go_wp2_with fail
  go_ret
  rw [HW0.out]
  exact ⟨rfl, _, _, _, H.out.did.after HB.out, rfl⟩
end
section
open Go.RowKit
theorem rd_leS {w : World} {B n m : Nat} {A : Option Addr} {bs : List UInt8} (h : Rd w B A n bs) (hb : bs.length ≤ m) : n ≤ m := by rw [← h.1]; exact hb
theorem sSame (d r : Nat) (F G : Nat → Prop) (s : DS) (w : World) (h : Pair w d F r G s) :
  Calls Tryz.prog 8 #[.pointer (some ⟨d, 0, none⟩), .pointer (some ⟨r, 0, none⟩)] w fun e w' => e = .returned (.bool true) ∧ Below w.heap.size w w' := by
 have H := qH h
 have H0 := qH h
 have HOK := qH h.dk.ok
 clear h
 go_enter Tryz.func8, Tryz.ntmps8
 go_wp2_with fail
 refine (dDirty d F s w H.out.dk).mono ?_
 rintro e w1 ⟨A1, c1, rfl, hown, hb⟩
 have R1 := qH (RdK.of_own hown)
 have B1 := qH hb
 replace H := qH (H.out.to hb)
 clear hown hb
 go_wp2_with fail
 refine (qDirty r G s w1 H.out.dr).mono ?_
 rintro e w2 ⟨A2, c2, rfl, hown, hb⟩
 have R2 := qH (RdK.of_own hown)
 have B2 := qH (B1.out.trans (hb.mono B1.out.size))
 replace H := qH (H.out.to hb)
 replace R1 := qH (R1.out.to hb)
 have hDL : (dirtyL s.L).length ≤ 1024 := Nat.le_trans (dirtyFrom_le 0 s.L) HOK.out.len
 clear hown hb B1
 generalize dirtyL s.L = D at *
 have HDL : Hid (D.length ≤ 1024) := hDL
 have HNL : Hid (s.L.length ≤ 1024) := HOK.out.len
 clear hDL
 obtain ⟨lb, cap, x0, x1, -, -, -⟩ := H.out.dr.cells
 have HD := qH H.out.drew
 have BD := qH B2.out.drew
 have RD1 := qH R1.out.drew'
 have RD2 := qH R2.out.drew'
 have X1 : Hid (w2.drew.cell? ⟨r, 1, none⟩ = some (.bool (!s.up))) := x1
 have HUD := qH (dUp d F s _ HD.out.dk)
 clear x0 x1 H B2 R1 R2
 generalize hwd : w2.drew = wd at *
 have HWD := qH hwd
 clear hwd
 go_wp2_with fail
 refine wp_region_held_drew (S := (fun w' => w'.cell? ⟨r, 1, none⟩ = some (.bool (!s.up)))) (by kernel_rfl) ((by rw [HWD.out]; exact X1.out)) (fun hHeld => ?_)
 rw [HWD.out] at hHeld ⊢
 refine tk 0 ?_
 simp only [pR]
 refine tk 1 ?_
 simp only [pR]
 refine tk 2 ?_
 simp only [pR]
 refine tk 3 ?_
 simp only [pR]
 refine tk 4 ?_
 simp only [pR]
 refine tk 5 ?_
 simp only [pR]
 refine tk 6 ?_
 simp only [pR]
 refine tk 8 ?_
 simp only [pR]
 refine tk 9 ?_
 simp only [pR]
 refine tk 10 ?_
 simp only [pR]
 refine tw 11 rfl (by intro w hSw; (try dsimp only at hSw); (have x := hSw); clear hSw; go_simp; (try with_reducible rfl)) ?_
 simp only [pR]
 refine rd1 7 (fun K hK => ?_)
 go_simp
 refine (HUD.out).mono ?_
 rintro e w' ⟨rfl, rfl⟩
 go_wp2_with fail
 refine hK.out _ _ (X1.out) (fun hHeld => ?_)
 clear hK K
 refine wpAnyH_take (i := 12) (v := .bool false) rfl (by kernel_rfl) (by kernel_rfl) (by kernel_rfl) (fun _ _ _ h => h) (Or.inl ⟨by rfl, ?_⟩) (by assumption) ?_
 ·intro w hSw
  cases s.up <;> go_simp
 simp only [pR]
 refine tk 13 ?_
 simp only [pR]
 refine wpAnyH_done (by kernel_rfl) ?_ _
 clear hHeld HUD X1
 go_wp2_with fail
 go_loopw [7] (fun i wr => ∃ (k q : Nat), k ≤ D.length ∧ i = .int .i64 (k : Int) ∧ wr = wd.drewN q) (fun i _ => D.length - (intOf i).toNat)
 case atStart => exact ⟨0, 0, Nat.zero_le _, rfl, rfl⟩
 case round =>
  obtain ⟨k, q, hk, rfl, rfl⟩ := hrel
  have HK : Hid (k ≤ D.length) := hk
  clear hk
  by_cases hlt : k < D.length
  ·have HLT : Hid (k < D.length) := hlt
   obtain ⟨b1, o1, rfl, _, hc1⟩ := RD1.out.2 (by omega)
   obtain ⟨b2, o2, rfl, _, hc2⟩ := RD2.out.2 (by omega)
   have x1 : wd.cell? ⟨b1, o1 + k, none⟩ = some (.int .i64 (nx D k : Int)) := hc1 k hlt
   have x2 : wd.cell? ⟨b2, o2 + k, none⟩ = some (.int .i64 (nx D k : Int)) := hc2 k hlt
   clear hc1 hc2
   have hkI : (k : Int) < (D.length : Int) := by omega
   have hk1025 : (k : Int) < 1025 := by have := HDL.out; omega
   clear hlt
   generalize nx D k = y at *
   go_wp2_with fail
   go_quiet (fail)
   go_wp2_with fail
   go_roundw
   case rel => exact ⟨k + 1, _, HLT.out, by go_num, rfl⟩
   case measure => have := HLT.out; simp [intOf]; omega
  ·obtain rfl : k = D.length := by have := HK.out; omega
   have BZ := qH (below_drewN BD.out q)
   go_wp2_with fail
   generalize wd.drewN q = wz at *
   clear HD BD RD1 RD2 HWD HK
   go_loopw [8] (fun i wr => ∃ j : Nat, j ≤ s.L.length ∧ i = .int .i64 (j : Int) ∧ Below w.heap.size w wr) (fun i _ => s.L.length - (intOf i).toNat)
   case atStart => exact ⟨0, Nat.zero_le _, rfl, BZ.out⟩
   case round =>
    clear BZ
    obtain ⟨j, hj1, rfl, hb⟩ := hrel
    have BR := qH hb
    have P := qH (H0.out.to hb)
    have HJ : Hid (j ≤ s.L.length) := hj1
    clear hb hj1
    obtain ⟨lb, cap, x0, -, -, -, -⟩ := P.out.dr.cells
    by_cases hj : j < s.L.length
    ·have J2 : Hid (j < s.L.length) := hj
     have hjI : (j : Int) < (s.L.length : Int) := by omega
     go_wp2_with fail
     clear x0 hj hjI
     refine (dRead d F s (j : Int) wr P.out.dk).mono ?_
     rintro e w3 ⟨A3, n3, c3, rfl, hown, hb⟩
     have RD3 := qH (Rd.of_own hown)
     have N3 : Hid (n3 ≤ 64) := by show _ ≤ _; rw [← RD3.out.1]; exact read_len HOK.out j
     replace P := qH (P.out.to hb)
     replace BR := qH (BR.out.trans (hb.mono BR.out.size))
     clear hown hb
     go_wp2_with fail
     refine (qRead r G s (j : Int) w3 P.out.dr).mono ?_
     rintro e w4 ⟨A4, n4, c4, rfl, hown, hb⟩
     have RD4 := qH (Rd.of_own hown)
     have N4 : Hid (n4 ≤ 64) := by show _ ≤ _; rw [← RD4.out.1]; exact read_len HOK.out j
     clear hown
     replace P := qH (P.out.to hb)
     replace BR := qH (BR.out.trans (hb.mono BR.out.size))
     replace RD3 := qH (RD3.out.to hb)
     clear hb
     generalize (s.read (j : Int)).2 = ev at *
     generalize (s.read (j : Int)).1 = bs at *
     go_wp2_with fail
     replace P := qH P.out.drew
     replace BR := qH BR.out.drew
     replace RD3 := qH RD3.out.drew'
     replace RD4 := qH RD4.out.drew'
     generalize hwe : w4.drew = we at *
     have HWE := qH hwe
     clear hwe
     obtain ⟨lb, cap, x0, -, hcp1, hcp2, hsec⟩ := P.out.dr.cells
     obtain ⟨b6, o6, c6, y0, hrd⟩ := hsec j J2.out
     have X0 := qH x0
     have Y0 := qH y0
     have RD6 := qH hrd
     have LX : Hid (r < we.heap.size) := World.block_lt_of_cell? we _ x0
     have LY : Hid (lb < we.heap.size) := World.block_lt_of_cell? we _ y0
     have hfe : s.flushed (j : Int) = (secAt s.L j).1 := flushed_in J2.out
     have HJI : Hid ((j : Int) < (s.L.length : Int)) := by show _ < _; have := J2.out; omega
     have hjI := HJI.out
     have hj1025 : (j : Int) < 1025 := by have := HNL.out; have := J2.out; omega
     clear hsec x0 y0 hrd
     refine wp_region_held_drew (S := (fun w' => Below we.heap.size we w')) (by kernel_rfl) ((by rw [HWE.out]; exact Below.refl _ _)) (fun hHeld => ?_)
     rw [HWE.out] at hHeld ⊢
     refine tk 0 ?_
     simp only [pR]
     refine tk 1 ?_
     simp only [pR]
     refine tk 2 ?_
     simp only [pR]
     refine tk 3 ?_
     simp only [pR]
     refine tk 4 ?_
     simp only [pR]
     refine tk 5 ?_
     simp only [pR]
     refine rd1 6 (fun K hK => ?_)
     go_simp
     refine (refSameBT A3 A4 n3 n4 c3 c4 bs bs we rfl RD3.out RD4.out (by have := N3.out; omega) (by have := N4.out; omega)).mono ?_
     rintro e w5 ⟨rfl, hb⟩
     have B5 := qH hb
     have P5 := qH (P.out.to hb)
     clear hb
     go_wp2_with fail
     refine hK.out _ _ (B5.out) (fun hHeld => ?_)
     clear hK K
     refine tk 7 ?_
     simp only [pR]
     refine tk 8 ?_
     simp only [pR]
     refine tk 9 ?_
     simp only [pR]
     refine tk 10 ?_
     simp only [pR]
     refine tk 11 ?_
     simp only [pR]
     refine tk 13 ?_
     simp only [pR]
     refine tk 14 ?_
     simp only [pR]
     refine tk 15 ?_
     simp only [pR]
     refine tk 17 ?_
     simp only [pR]
     refine tw 16 rfl (by intro w hSw; (try dsimp only at hSw); (have x := (hSw.cell LX.out).trans X0.out); clear hSw; go_simp; (try with_reducible rfl)) ?_
     simp only [pR]
     refine tk 18 ?_
     simp only [pR]
     refine tk 19 ?_
     simp only [pR]
     refine tw 20 rfl (by intro w hSw; (try dsimp only at hSw); (have x := (hSw.cell LY.out).trans Y0.out); clear hSw; go_simp; (try with_reducible rfl)) ?_
     simp only [pR]
     refine rd1 12 (fun K hK => ?_)
     go_simp
     refine (dFlushed d F s (j : Int) w5 P5.out.dk).mono ?_
     rintro e w6 ⟨A7, n7, c7, rfl, hown, hb⟩
     rw [hfe] at hown
     have RD7 := qH (Rd.of_own hown)
     have N7 : Hid (n7 ≤ 64) := rd_leS RD7.out (Nat.le_of_eq (HOK.out.secF J2.out))
     have B6 := qH (B5.out.trans (hb.mono B5.out.size))
     clear hown hb
     go_wp2_with fail
     refine hK.out _ _ (B6.out) (fun hHeld => ?_)
     clear hK K
     refine rd1 21 (fun K hK => ?_)
     go_simp
     refine (refSameBT A7 (some ⟨b6, o6, none⟩) n7 64 c7 c6 _ _ w6 rfl RD7.out (RD6.out.to B6.out) (by have := N7.out; omega) (by decide)).mono ?_
     rintro e w7 ⟨rfl, hb⟩
     have B7 := qH (B6.out.trans (hb.mono B6.out.size))
     clear hb
     go_wp2_with fail
     refine hK.out _ _ (B7.out) (fun hHeld => ?_)
     clear hK K
     refine tk 22 ?_
     simp only [pR]
     refine tk 23 ?_
     simp only [pR]
     refine wpAnyH_done (by kernel_rfl) ?_ _
     clear hHeld
     have BZ := qH (BR.out.trans (B7.out.mono BR.out.size))
     go_wp2_with fail
     go_roundw
     case rel => exact ⟨j + 1, J2.out, by go_num, BZ.out⟩
     case measure => have := J2.out; simp [intOf]; omega
    ·obtain rfl : j = s.L.length := by have := HJ.out; omega
     have hjI : ¬ (s.L.length : Int) < (s.L.length : Int) := by omega
     go_wp2_with fail
     go_ret
     exact ⟨rfl, BR.out⟩
end
end Go.Proofs.YtopilgedcnbdaaaGreatDoor