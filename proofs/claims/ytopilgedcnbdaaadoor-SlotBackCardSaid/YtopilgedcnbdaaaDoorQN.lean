/- Several texts in one (a claim has 60 files at most): SlAct, SlL, SlG, SlN, ShaI, ShaOpen. -/
import Derived.Test.YtopilgedcnbdaaaDoorTz
import Derived.Test.YtopilgedcnbdaaaDoorOpen
import Derived.Test.YtopilgedcnbdaaaDoorKitO
import Derived.Test.YtopilgedcnbdaaaDoorDiskM
import Derived.Deep.Slices
import Derived.Deep.Fields
import Derived.Deep.MidRow
import Derived.ChangeSame
import Derived.SizedLaws
import Derived.Test.YtopilgedcnbdaaaDoorQ0
import Derived.Test.YtopilgedcnbdaaaDoorDiskG
import Derived.Test.YtopilgedcnbdaaaDoorShaH
import Derived.Test.YtopilgedcnbdaaaDoorArrEq
import Derived.Deep.RegionHeld
namespace Go.Proofs.YtopilgedcnbdaaaDoor
set_option maxRecDepth 1000000
set_option maxHeartbeats 8000000
set_option linter.unusedVariables false
set_option linter.unusedSimpArgs false
section
open Go.RowKit Go.ChangeShapes Go.WideShapes Go.Deep
structure SAct where
 kind : Int
 slot : Int
 n : Int
 b : List UInt8
 odd : Bool
def SAct.zero : SAct := ⟨0, 0, 0, [], false⟩
def sactL (a : SAct) (A : Option Addr) (m c : Nat) : List Value := [.int .i64 a.kind, .int .i64 a.slot, .int .i64 a.n, .slice A m c, .bool a.odd]
structure SActOk (w : World) (B : Nat) (a : SAct) (A : Option Addr) (m c : Nat) : Prop where
 kk : -9223372036854775808 ≤ a.kind ∧ a.kind ≤ 9223372036854775807
 ss : -9223372036854775808 ≤ a.slot ∧ a.slot ≤ 9223372036854775807
 nn : -9223372036854775808 ≤ a.n ∧ a.n ≤ 9223372036854775807
 rd : Rd w B A m a.b
 mc : m ≤ c
 cc : c ≤ 140737488351232
theorem SActOk.below {w w' : World} {B : Nat} {a : SAct} {A : Option Addr} {m c : Nat} (h : SActOk w B a A m c) (hb : Below B w w') : SActOk w' B a A m c := ⟨h.kk, h.ss, h.nn, h.rd.below hb, h.mc, h.cc⟩
theorem SActOk.more {w : World} {B B' : Nat} {a : SAct} {A : Option Addr} {m c : Nat} (h : SActOk w B a A m c) (hB : B ≤ B') : SActOk w B' a A m c := ⟨h.kk, h.ss, h.nn, h.rd.more hB, h.mc, h.cc⟩
def RdSA (w : World) (B : Nat) (A : Option Addr) (n : Nat) (l : List SAct) : Prop :=
 l.length = n ∧ (0 < n → ∃ b o, A = some ⟨b, o, none⟩ ∧ b < B ∧ ∀ j, j < n → ∃ A' m c, w.rangeAt b (o + j * 5) (sactL (l.getD j SAct.zero) A' m c) ∧ SActOk w B (l.getD j SAct.zero) A' m c)
theorem RdSA.below {w w' : World} {B n : Nat} {A : Option Addr} {l : List SAct} (h : RdSA w B A n l) (hb : Below B w w') : RdSA w' B A n l :=
 ⟨h.1, fun hn => by
  obtain ⟨b, o, e, hB, hc⟩ := h.2 hn
  refine ⟨b, o, e, hB, fun j hj => ?_⟩
  obtain ⟨A', m, c, h1, h2⟩ := hc j hj
  exact ⟨A', m, c, fun i v hv => (hb.cell (by exact hB)).trans (h1 i v hv), h2.below hb⟩⟩
theorem RdSA.more {w : World} {B B' n : Nat} {A : Option Addr} {l : List SAct} (h : RdSA w B A n l) (hB : B ≤ B') : RdSA w B' A n l :=
 ⟨h.1, fun hn => by
  obtain ⟨b, o, e, hb, hc⟩ := h.2 hn
  refine ⟨b, o, e, by omega, fun j hj => ?_⟩
  obtain ⟨A', m, c, h1, h2⟩ := hc j hj
  exact ⟨A', m, c, h1, h2.more hB⟩⟩
theorem RdSA.to {w w' : World} {n : Nat} {A : Option Addr} {l : List SAct} (h : RdSA w w.heap.size A n l) (hb : Below w.heap.size w w') : RdSA w' w'.heap.size A n l := (h.below hb).more hb.size
section
variable {H : Type} {enc : TypeId × Value → H} {W : World} {base : Nat} {held : Bool}
theorem trod_sact {n : Nat} {cs : List Value} {x : DataW H × List MemPlace} (h : DataW.trod enc Tryd.prog W base (fun _ => true) held n 24 cs = some x) (hw : ∀ y ∈ x.1.weights Tryd.prog 24, y ≤ reachBytes) :
  ∃ a A m c, cs = sactL a A m c ∧ SActOk W W.heap.size a A m c := by
 obtain ⟨xs, k, rfl, hxx, hl, hxl, hf⟩ := DataW.trod_struct Tryd.underlying24 h
 have hl3 : cs.length = 5 := by rw [hl]; kernel_rfl
 have e1 : Tryd.prog.cellsOf 3 = 1 := by kernel_rfl
 have e4 : Tryd.prog.cellsOf 22 = 1 := by kernel_rfl
 have e5 : Tryd.prog.cellsOf 4 = 1 := by kernel_rfl
 have h0 : DataW.trod enc Tryd.prog W base (fun _ => true) held k 3 ((cs.drop 0).take (Tryd.prog.cellsOf 3)) = xs[0]? := hf 0 _ rfl
 have h1 : DataW.trod enc Tryd.prog W base (fun _ => true) held k 3 ((cs.drop 1).take (Tryd.prog.cellsOf 3)) = xs[1]? := hf 1 _ rfl
 have h2 : DataW.trod enc Tryd.prog W base (fun _ => true) held k 3 ((cs.drop 2).take (Tryd.prog.cellsOf 3)) = xs[2]? := hf 2 _ rfl
 have h4 : DataW.trod enc Tryd.prog W base (fun _ => true) held k 22 ((cs.drop 3).take (Tryd.prog.cellsOf 22)) = xs[3]? := hf 3 _ rfl
 have h5 : DataW.trod enc Tryd.prog W base (fun _ => true) held k 4 ((cs.drop 4).take (Tryd.prog.cellsOf 4)) = xs[4]? := hf 4 _ rfl
 have hx3 : xs.length = 5 := hxl
 rw [e1, List.getElem?_eq_getElem (by omega)] at h0 h1 h2
 rw [e4, List.getElem?_eq_getElem (by omega)] at h4
 rw [e5, List.getElem?_eq_getElem (by omega)] at h5
 match cs, hl3 with
 | [c0, c1, c2, c4, c5], hl3 =>
  simp only [List.drop_succ_cons, List.drop_zero, List.take_succ_cons, List.take_zero] at h0 h1 h2 h4 h5
  obtain ⟨z0, g0, _, w0⟩ := DataW.trod_int Tryd.underlying3 h0
  obtain ⟨z1, g1, _, w1⟩ := DataW.trod_int Tryd.underlying3 h1
  obtain ⟨z2, g2, _, w2⟩ := DataW.trod_int Tryd.underlying3 h2
  obtain ⟨z5, g5, _⟩ := DataW.trod_bool Tryd.underlying4 h5
  simp only [List.cons.injEq, and_true] at g0 g1 g2 g5
  subst g0; subst g1; subst g2; subst g5
  have hwt : ∀ y ∈ (xs[3]'(by omega)).1.weights Tryd.prog 22, y ≤ reachBytes := fun y hy => hw y (by
   rw [hxx]
   simp only [DataW.weights, Tryd.underlying24]
   exact DataW.weights_mem_each (j := 3) rfl (by rw [List.getElem?_map, List.getElem?_eq_getElem (by omega)]; rfl) y hy)
  have hB : ∃ A m c bs, c4 = .slice A m c ∧ Rd W W.heap.size A m bs ∧ m ≤ c ∧ c ≤ 140737488351232 := by
   rcases open_ints Tryd.underlying22 Tryd.underlying5 (by kernel_rfl) h4 with ⟨hcs, _⟩ | ⟨x, l, c, zs, hcs, _, hl, hm, hz, hdx, hcell, hwz⟩
   ·simp only [List.cons.injEq, and_true] at hcs
    exact ⟨none, 0, 0, [], hcs, Rd.nil _ _ _, by decide, by decide⟩
   ·simp only [List.cons.injEq, and_true] at hcs
    have hR : IsRow .u8 W (some x) l c zs := .inr ⟨_, rfl, hl, hm, by simpa using hz, hcell, hwz⟩
    obtain ⟨r1, r2, r3⟩ := hR.rd
    have hz' : zs.length = c := by simpa using hz
    have hcc : c ≤ reachBytes := by
     have be : Tryd.prog.bytesOf 5 = 1 := by kernel_rfl
     have hdd := congrArg Prod.fst hdx
     simp only at hdd
     have := hwt c (by
      rw [hdd]
      simp only [DataW.weights, Tryd.underlying22, be]
      refine List.mem_cons.2 (.inl ?_)
      simp [lits]
      omega)
     exact this
    exact ⟨_, _, _, _, hcs, r1, r2, by unfold reachBytes at hcc; omega⟩
  obtain ⟨A, m, c, bs, rfl, hr, hmc, hcc⟩ := hB
  exact ⟨⟨z0, z1, z2, bs, z5⟩, A, m, c, rfl, ⟨wf_i64 w0, wf_i64 w1, wf_i64 w2, hr, hmc, hcc⟩⟩
theorem open_sact {r : Reach} {b0 : Nat} {v : Value} {d : DataW H} {ps : List MemPlace} (hval : Value.okWide Tryd.prog W r b0 24 v) (hd : DataW.Trod enc Tryd.prog W base (fun _ => true) held 24 v d ps)
  (hw : ∀ y ∈ d.weights Tryd.prog 24, y ≤ reachBytes) : ∃ a A m c, v = .agg (sactL a A m c).toArray ∧ SActOk W W.heap.size a A m c := by
 obtain ⟨cs, rfl, _⟩ := okWide_struct Tryd.underlying24 hval
 obtain ⟨fuel, hf⟩ := hd
 obtain ⟨a, A, m, c, hcs, hok⟩ := trod_sact hf hw
 refine ⟨a, A, m, c, ?_, hok⟩
 have h : cs.toList = sactL a A m c := by simpa [Value.cells] using hcs
 rw [← h]
theorem open_sacts {r : Reach} {b0 : Nat} {v : Value} {d : DataW H} {ps : List MemPlace} (hval : Value.okWide Tryd.prog W r b0 26 v) (hd : DataW.Trod enc Tryd.prog W base (fun _ => true) held 26 v d ps)
  (hw : ∀ y ∈ d.weights Tryd.prog 26, y ≤ reachBytes) :
  ∃ a len cap l, v = .slice a len cap ∧ RdSA W W.heap.size a len l ∧ len ≤ cap ∧ cap * 56 ≤ 140737488351232 := by
 obtain ⟨a, len, cap, rfl⟩ := okWide_slice Tryd.underlying26 hval
 obtain ⟨fuel, hf⟩ := hd
 have e3 : Tryd.prog.cellsOf 24 = 5 := by kernel_rfl
 rcases open_slice Tryd.underlying26 hf with ⟨hcs, _⟩ | ⟨x, l, c, m, n, D, Pl, hcs, hbx, hl, hm, hmm, hx, hi⟩
 ·simp [Value.cells] at hcs
  obtain ⟨rfl, rfl, rfl⟩ := hcs
  exact ⟨none, 0, 0, [], rfl, ⟨rfl, fun h => absurd h (Nat.lt_irrefl 0)⟩, by omega, by omega⟩
 ·simp [Value.cells] at hcs
  obtain ⟨rfl, rfl, rfl⟩ := hcs
  have hmc : m = cap := by simpa using hmm
  subst hmc
  rw [e3] at hi
  have hdd := congrArg Prod.fst hx
  simp only at hdd
  have b56 : Tryd.prog.bytesOf 24 = 56 := by kernel_rfl
  have hcap : m * 56 ≤ reachBytes := by
   have := hw (m * 56) (by
    rw [hdd]
    simp only [DataW.weights, Tryd.underlying26, b56]
    refine List.mem_cons.2 (.inl ?_)
    simp
    omega)
   exact this
  have hwD : ∀ i, i < m → ∀ y ∈ (D i).weights Tryd.prog 24, y ≤ reachBytes := fun i him y hy => hw y (by
   rw [hdd]
   simp only [DataW.weights, Tryd.underlying26]
   refine List.mem_cons_of_mem _ ?_
   by_cases h : i < len
   ·exact List.mem_append_left _ (mem_weightsAll (List.mem_map.2 ⟨i, List.mem_range.2 h, rfl⟩) hy)
   ·exact List.mem_append_right _ (mem_weightsAll (List.mem_map.2 ⟨i - len, List.mem_range.2 (by omega), by rw [show len + (i - len) = i from by omega]⟩) hy))
  have each : ∀ i, i < m → ∃ f A' m' c', (∀ j v, (sactL f A' m' c')[j]? = some v → W.cell? ((x.add (i * 5)).add j) = some v) ∧ SActOk W W.heap.size f A' m' c' := by
   intro i hi'
   obtain ⟨cs', h1, h2⟩ := hi i hi'
   obtain ⟨f, A', m', c', rfl, hok⟩ := trod_sact h2 (hwD i hi')
   obtain ⟨_, h4, h5⟩ := World.cells?_some h1
   refine ⟨f, A', m', c', fun j v hv => ?_, hok⟩
   have hj : j < 5 := by
    rcases Nat.lt_or_ge j 5 with g | g
    ·exact g
    ·rw [List.getElem?_eq_none (by simpa [sactL] using g)] at hv; cases hv
   rw [h5 j hj]; exact hv
  have hch : ∃ F : Nat → SAct, ∀ i, i < m → ∃ A' m' c', (∀ j v, (sactL (F i) A' m' c')[j]? = some v → W.cell? ((x.add (i * 5)).add j) = some v) ∧ SActOk W W.heap.size (F i) A' m' c' := by
   refine ⟨fun i => if h : i < m then Classical.choose (each i h) else SAct.zero, fun i h => ?_⟩
   simp only [dif_pos h]
   exact Classical.choose_spec (each i h)
  obtain ⟨F, hF⟩ := hch
  refine ⟨some x, len, m, (List.range len).map F, rfl, ⟨by simp, fun h0 => ?_⟩, hl, by unfold reachBytes at hcap; omega⟩
  obtain ⟨b, o, s⟩ := x
  obtain ⟨A0, m0, c0, h00, _⟩ := hF 0 (by omega)
  have hc0 := h00 0 _ rfl
  obtain rfl : s = none := by simpa [Addr.add] using World.cell?_spot hc0
  refine ⟨b, o, rfl, ?_, fun j hj => ?_⟩
  ·rw [add_none, add_none] at hc0
   exact cell_block hc0
  ·obtain ⟨A', m', c', h1, h2⟩ := hF j (by omega)
   have e : ((List.range len).map F).getD j SAct.zero = F j := by simp [List.getD, hj]
   rw [e]
   refine ⟨A', m', c', fun i v hv => ?_, h2⟩
   have := h1 i v hv
   rwa [add_none, add_none] at this
end
end
section
open Go.RowKit
def SGrRel (l : List SAct) (n i : Value) (wr : World) (w : World) : Prop :=
 ∃ k s : Nat, k ≤ l.length ∧ s ≤ 6000 ∧ k * 100 ≤ s ∧ n = .int .i64 (s : Int) ∧ i = .int .i64 (k : Int) ∧ w = wr ∧ ∀ j, j < k → (l.getD j SAct.zero).b.length ≤ 6000
def SFew (l : List SAct) : Prop := l.length ≤ 60 ∧ ∀ j, j < l.length → (l.getD j SAct.zero).b.length ≤ 6000
theorem sGreat (A : Option Addr) (n c : Nat) (l : List SAct) (w : World) (h : RdSA w w.heap.size A n l) (hn : n ≤ 140737488351232) :
  Calls Tryd.prog 5 #[.slice A n c] w fun e w' => ∃ g, e = .returned (.bool g) ∧ w = w' ∧ (g = false → SFew l) := by
 have H := qH h
 have HL := qH h.1
 clear h
 go_enter Tryd.func5, Tryd.ntmps5
 go_wp2_with fail
 go_loopw [3, 4] (fun s i wr => SGrRel l s i wr w) (fun _ i _ => n - (intOf i).toNat)
 case atStart => exact ⟨0, 0, Nat.zero_le _, Nat.zero_le _, Nat.le_refl _, rfl, rfl, rfl, fun j hj => absurd hj (Nat.not_lt_zero _)⟩
 case round =>
  obtain ⟨k, s, hk, hs, hks, rfl, rfl, rfl, hj⟩ := hrel
  rw [HL.out] at hk
  have HJ := qH hj
  have HS : Hid (s ≤ 6000) := hs
  have HKS : Hid (k * 100 ≤ s) := hks
  have HK : Hid (k ≤ n) := hk
  clear hj
  by_cases hlt : k < n
  ·have HLT : Hid (k < n) := hlt
   obtain ⟨b, o, rfl, hb, hc⟩ := H.out.2 (by omega)
   obtain ⟨A', m, cc, h1, h2⟩ := hc k hlt
   have c2 : w.cell? ⟨b, o + k * 5 + 3, none⟩ = some (.slice A' m cc) := h1 3 _ rfl
   have hm : m = (l.getD k SAct.zero).b.length := h2.rd.1.symm
   have hmc := h2.mc
   have hcc := h2.cc
   have hsI : (s : Int) < 6001 := by omega
   have hmI : (m : Int) < 140737488351233 := by omega
   have hkI : (k : Int) < (n : Int) := by omega
   have hnI : (n : Int) < 140737488351233 := by omega
   have HM := qH hm
   clear hc h1 h2 hm hs hks hk hmc hcc
   by_cases hbig : (s : Int) + m + 100 > 6000
   ·go_wp2_with fail
    go_ret
    exact ⟨true, rfl, rfl, fun h => by cases h⟩
   ·have hbig' : ¬ ((s : Int) + m + 100 > 6000) := hbig
    go_wp2_with fail
    go_roundw
    case rel =>
     refine ⟨k + 1, s + m + 100, by rw [HL.out]; exact HLT.out, by omega, by have := HKS.out; omega, by go_num, by go_num, rfl, fun j hj => ?_⟩
     by_cases e : j = k
     ·subst e; rw [← HM.out]; omega
     ·exact HJ.out j (by omega)
    case measure => have := HLT.out; simp [intOf]; omega
  ·obtain rfl : k = n := by have := HK.out; omega
   have hsI : (s : Int) < 6001 := by omega
   have hnI : (k : Int) < 140737488351233 := by omega
   clear hs hks hk
   go_wp2_with fail
   go_ret
   exact ⟨false, rfl, rfl, fun _ => ⟨by rw [HL.out]; have := HS.out; have := HKS.out; omega, fun j hj => HJ.out j (by rw [HL.out] at hj; exact hj)⟩⟩
theorem sact_box (w : World) (a b c d e : Value) (T : TypeId) (hc : a.oneCell' = true) : (w.alloc (.cells #[a, b, c, d, e] T)).cell? ⟨w.heap.size, 0, none⟩ = some a ∧ (w.alloc (.cells #[a, b, c, d, e] T)).cell? ⟨w.heap.size, 1, none⟩ = some b ∧ (w.alloc (.cells #[a, b, c, d, e] T)).cell? ⟨w.heap.size, 2, none⟩ = some c ∧
  (w.alloc (.cells #[a, b, c, d, e] T)).cell? ⟨w.heap.size, 3, none⟩ = some d ∧ (w.alloc (.cells #[a, b, c, d, e] T)).cell? ⟨w.heap.size, 4, none⟩ = some e := by
 refine ⟨?_, ?_, ?_, ?_, ?_⟩ <;> simp
end
section
open Go.RowKit Go.Shelf
def getS (sl n : Int) (hash : List UInt8) (s : DS) : List UInt8 × Int :=
 if (readS sl n s).2 ≠ 0 then ([], (readS sl n s).2) else if shaL (readS sl n s).1 = hash then ((readS sl n s).1, 0) else ([], 150)
theorem readS_len4 (sl n : Int) (s : DS) : (readS sl n s).1.length ≤ 4096 := by
 unfold readS
 split
 ·exact Nat.zero_le _
 ·rename_i h
  have h0 : refS sl 0 n = 0 := Classical.not_not.1 h
  obtain ⟨-, -, g1, g2, -⟩ := refS_ok h0
  split
  ·exact Nat.zero_le _
  ·split
   ·exact Nat.zero_le _
   ·simp only [List.length_take]
    omega
theorem slGet (d : Nat) (D : Nat → Prop) (s : DS) (sl n : Int) (hash : List UInt8) (w : World) (hp : Pr w) (h : DkAt w d D s) (hl : 0 < s.L.length) (hh : hash.length = 32) :
  Calls Tryd.prog 7 #[.pointer (some ⟨d, 0, none⟩), .int .i64 sl, .int .i64 n, .agg (arrB hash)] w (RetE w (getS sl n hash s)) := by
 have HB : Hid (Below w.heap.size w (w.alloc (.cells (arrB hash) 41))) := (Below.refl _ _).alloc (Nat.le_refl _) _
 have T0 : Hid (TagAt (w.alloc (.cells (arrB hash) 41)) w.heap.size hash) := ⟨hh, heap_alloc_last w _⟩
 have HRD := qH (slRead d D s sl n _ (h.to HB.out) hl)
 have HP := qH (hp.to HB.out)
 have HG : Hid (getS sl n hash s = if (readS sl n s).2 ≠ 0 then ([], (readS sl n s).2) else if shaL (readS sl n s).1 = hash then ((readS sl n s).1, 0) else ([], 150)) := rfl
 have HL4 := qH (readS_len4 sl n s)
 have HH := qH hh
 clear h hl hp
 go_enter Tryd.func7, Tryd.ntmps7
 go_wp2_with fail
 refine (HRD.out).mono ?_
 rintro e w1 ⟨A, m, c, rfl, hrd, hmc, hc, hb⟩
 generalize readS sl n s = x at *
 obtain ⟨bs, ev⟩ := x
 dsimp only at *
 have R := qH hrd
 have HM : Hid (m ≤ 4096) := by show _ ≤ _; rw [← R.out.1]; exact HL4.out
 have HMC : Hid (m ≤ c) := hmc
 have HC : Hid (c ≤ 9223372036854775807) := hc
 replace HP := qH (HP.out.to hb)
 have T1 := qH (T0.out.below hb)
 have B1 := qH (HB.out.trans (hb.mono HB.out.size))
 clear hrd hmc hc hb HB T0 HRD hh
 by_cases hev : ev = 0
 ·subst hev
  have hcl := shaL_len bs
  have heq : ∀ w', (Op.equalIn 10000 41 (.agg (arrB (shaL bs))) (.agg (hash.map bval).toArray)).run Tryd.prog w' = .ok (decide (shaL bs = hash)) w' := fun w' => run_eql_arrB (P := Tryd.prog) Tryd.underlying41 Tryd.underlying5 (sizeOf_one (by kernel_rfl)) (shaL bs) hash hcl HH.out w'
  have hu := Tryd.underlying41
  have hi : (Tryd.prog.info? 41).map (·.size) = some (hash.map bval).length := by rw [List.length_map, HH.out]; exact (zero_of_info tag_info).2
  have hgd : Tryd.prog.eqGuardType Tryd.prog.depth 41 = false := by kernel_rfl
  go_wp2_with fail
  have HSH := qH (wSha A m c bs w1.drew (HP.out.to ((Below.refl _ _).drew)) R.out.drew' (by have := HM.out; omega) HMC.out HC.out)
  have BD := qH B1.out.drew
  have TD : Hid (TagAt w1.drew w.heap.size hash) := T1.out
  have RD := qH R.out.drew'
  clear HP R T1 B1
  generalize hwd : w1.drew = wd at *
  have HWD := qH hwd
  clear hwd
  refine wp_region_held_drew (S := (fun w' => w'.rangeAt w.heap.size 0 (hash.map bval))) (by kernel_rfl) ((by rw [HWD.out]; exact TD.out.range)) (fun hHeld => ?_)
  rw [HWD.out] at hHeld ⊢
  refine tk 0 ?_
  simp only [pR]
  refine tl 2 (.agg (List.toArray (hash.map bval))) rfl (yieldsIf_load_mid (by rfl) 41 _ rfl w.heap.size 0 rfl (hash.map bval) _ (fun _ h => h) hu rfl hi) ?_
  simp only [pR]
  refine rd1 1 (fun K hK => ?_)
  go_simp
  refine (HSH.out).mono ?_
  rintro e w2 ⟨rfl, hb⟩
  have T2 := qH (TD.out.below hb)
  have R2 := qH (RD.out.to hb)
  have B2 := qH (BD.out.trans (hb.mono BD.out.size))
  clear hb
  go_wp2_with fail
  refine hK.out _ _ (T2.out.range) (fun hHeld => ?_)
  clear hK K
  refine tk 3 ?_
  simp only [pR]
  refine wpAnyH_done (by kernel_rfl) ?_ _
  clear hHeld hu hi hgd heq TD T2 RD BD HSH
  by_cases hs : shaL bs = hash
  ·have HSE : Hid (getS sl n hash s = (bs, 0)) := by show _ = _; rw [HG.out, if_neg (by simp), if_pos hs]
   rw [decide_eq_true hs]
   clear hs
   go_wp2_with fail
   refine bodyPost_ret (res_twoS rfl _ _ _ _ rfl rfl) rfl ?_
   rw [HSE.out]
   exact ⟨A, m, c, rfl, R2.out, HMC.out, HC.out, B2.out⟩
  ·have HSE : Hid (getS sl n hash s = ([], 150)) := by show _ = _; rw [HG.out, if_neg (by simp), if_neg hs]
   rw [decide_eq_false hs]
   clear hs
   go_wp2_with fail
   refine bodyPost_ret (res_twoS rfl _ _ _ _ rfl rfl) rfl ?_
   rw [HSE.out]
   exact ⟨none, 0, 0, rfl, Rd.nil _ _ _, Nat.le_refl _, by decide, B2.out⟩
 ·have HNE : Hid (¬ ev = 0) := hev
  go_wp2_with fail
  refine bodyPost_ret (res_twoS rfl _ _ _ _ rfl rfl) rfl ?_
  rw [HG.out, if_pos HNE.out]
  exact ⟨none, 0, 0, rfl, Rd.nil _ _ _, Nat.le_refl _, by decide, B1.out⟩
end
section
open Go.RowKit Go.Shelf
theorem slWriteNo (p : Value) (sl a : Int) (A : Option Addr) (n c : Nat) (w : World) (h : DkNo w p) :
  Calls Tryd.prog 8 #[p, .int .i64 sl, .int .i64 a, .slice A n c] w fun e w' => e = .returned (.int .i64 1) ∧ Below w.heap.size w w' := by
 obtain ⟨q, rfl⟩ : ∃ q, p = .pointer q := by cases h <;> exact ⟨_, rfl⟩
 obtain ⟨hb0, hsz, k0, k1, k2⟩ := wrWp_is w (.pointer q) A n c
 have HB := qH hb0
 have BX : Hid (Boxed (wrWp w (.pointer q) A n c) (w.heap.size + 1 + 1) 36 (.int .i64 0)) := k2
 have HREF := qH (slRefusalNo (.pointer q) sl a n _ (h.to HB.out))
 have bc := BX.out.cell
 have bf := BX.out.frozen
 clear hb0 hsz k2 h
 go_enter Tryd.func8, Tryd.ntmps8
 go_wp2_with fail
 refine (HREF.out).mono ?_
 rintro e w' ⟨rfl, rfl⟩
 generalize wrWp w (.pointer q) A n c = w3 at *
 go_wp2_with fail
 refine bodyPost_ret (res_errnoS rfl _ _ (w.heap.size + 1 + 1) (.int .i64 1) rfl (World.cell?_setCell_same' _ _ _ (by rw [bc]; rfl))) rfl ?_
 exact ⟨rfl, HB.out.setCell (p := ⟨w.heap.size + 1 + 1, 0, none⟩) (by show w.heap.size ≤ w.heap.size + 1 + 1; omega) _⟩
theorem slReadNo (p : Value) (sl n : Int) (w : World) (h : DkNo w p) :
  Calls Tryd.prog 6 #[p, .int .i64 sl, .int .i64 n] w fun e w' => e = .returned (.tuple #[.slice none 0 0, .int .i64 1]) ∧ Below w.heap.size w w' := by
 obtain ⟨q, rfl⟩ : ∃ q, p = .pointer q := by cases h <;> exact ⟨_, rfl⟩
 obtain ⟨hb0, hsz, k0, k1, k2⟩ := rdWp_is w (.pointer q)
 have HB := qH hb0
 have BS : Hid (Boxed (rdWp w (.pointer q)) (w.heap.size + 1) 22 (.slice none 0 0)) := k1
 have BX : Hid (Boxed (rdWp w (.pointer q)) (w.heap.size + 1 + 1) 36 (.int .i64 0)) := k2
 have HREF := qH (slRefusalNo (.pointer q) sl 0 n _ (h.to HB.out))
 have bc := BX.out.cell
 have bf := BX.out.frozen
 have sc := BS.out.cell
 have sf := BS.out.frozen
 clear hb0 hsz k1 k2 h
 go_enter Tryd.func6, Tryd.ntmps6
 go_wp2_with fail
 refine (HREF.out).mono ?_
 rintro e w' ⟨rfl, rfl⟩
 generalize rdWp w (.pointer q) = w3 at *
 go_wp2_with fail
 obtain ⟨hc1, hc2⟩ := two_cells (u := .slice none 0 0) (v := .int .i64 1) (by omega) sc bc
 refine bodyPost_ret (res_seS rfl _ _ (w.heap.size + 1) (w.heap.size + 1 + 1) (.slice none 0 0) (.int .i64 1) rfl rfl hc1 hc2) rfl ?_
 exact ⟨rfl, (HB.out.setCell (p := ⟨w.heap.size + 1, 0, none⟩) (by show w.heap.size ≤ w.heap.size + 1; omega) _).setCell (p := ⟨w.heap.size + 1 + 1, 0, none⟩) (by show w.heap.size ≤ w.heap.size + 1 + 1; omega) _⟩
theorem slGetNo (p : Value) (sl n : Int) (hash : List UInt8) (w : World) (h : DkNo w p) :
  Calls Tryd.prog 7 #[p, .int .i64 sl, .int .i64 n, .agg (arrB hash)] w fun e w' => e = .returned (.tuple #[.slice none 0 0, .int .i64 1]) ∧ Below w.heap.size w w' := by
 have HB : Hid (Below w.heap.size w (w.alloc (.cells (arrB hash) 41))) := (Below.refl _ _).alloc (Nat.le_refl _) _
 have HRD := qH (slReadNo p sl n _ (h.to HB.out))
 clear h
 go_enter Tryd.func7, Tryd.ntmps7
 go_wp2_with fail
 refine (HRD.out).mono ?_
 rintro e w1 ⟨rfl, hb⟩
 have B1 := qH (HB.out.trans (hb.mono HB.out.size))
 clear hb
 go_wp2_with fail
 refine bodyPost_ret (res_twoS rfl _ _ _ _ rfl rfl) rfl ?_
 exact ⟨rfl, B1.out⟩
end
section
open Go.RowKit
def CapS (w : World) (A : Option Addr) (n : Nat) : Prop :=
 ∀ b o, A = some ⟨b, o, none⟩ → ∀ j, j < n → ∀ A1 n1 c1, w.cell? ⟨b, o + j, none⟩ = some (.slice A1 n1 c1) → n1 ≤ c1 ∧ c1 ≤ 9223372036854775807
theorem CapS.below {w w' : World} {B : Nat} {A : Option Addr} {n : Nat} (h : CapS w A n) (hb : Below B w w') (hA : ∀ b o, A = some ⟨b, o, none⟩ → 0 < n → b < B) : CapS w' A n := fun b o e j hj A1 n1 c1 hc => by
 rw [hb.cell (hA b o e (by omega))] at hc
 exact h b o e j hj A1 n1 c1 hc
theorem chain_take {bss : List (List UInt8)} {k : Nat} (h : k + 1 < bss.length) : chainL (bss.take (k + 1 + 1)) = shaL (chainL (bss.take (k + 1)) ++ bss.getD (k + 1) []) := by
 cases bss with
 | nil => simp at h
 | cons x l =>
  have hk : k < l.length := by simpa using h
  rw [List.take_succ_cons, List.take_succ_cons, List.getD_cons_succ, List.take_succ_eq_append_getElem hk, ← List.cons_append, chainL_snoc]
  simp [List.getD, List.getElem?_eq_getElem hk]
theorem chain_one {bss : List (List UInt8)} (h : 0 < bss.length) : chainL (bss.take 1) = shaL (bss.getD 0 []) := by
 cases bss with
 | nil => simp at h
 | cons x l => rfl
theorem row_le {bss : List (List UInt8)} {j : Nat} (h : j < bss.length) : (bss.getD j []).length ≤ bss.flatten.length := by
 have h1 := tot_succ h
 have h2 := tot_le bss (j + 1)
 omega
theorem rows_tail (b o n c : Nat) (h1 : 1 ≤ n) (hc : n ≤ c) : ∃ A', (∀ w : World, (Instr.slice 44 (.slice (some ⟨b, o, none⟩) n c) (some (.int .i64 1)) none none).run Tryd.prog w = .ok (.slice A' (n - 1) (c - 1)) w) ∧ (1 < n → A' = some ⟨b, o + 1, none⟩) := by
 refine ⟨if c = 1 then some ⟨b, o, none⟩ else some ⟨b, o + 1, none⟩, fun w => ?_, fun h => by rw [if_neg (by omega)]⟩
 have he : Tryd.prog.elem 44 = 22 := by kernel_rfl
 rw [run_slice_l (ht := by kernel_rfl) (kl := .i64) (l := 1) (h0 := by decide) (h1 := by omega), he, rows_size]
 simp [Result.andThen, sliced, Addr.add]
theorem tag_sliceAll (g : Nat) (w : World) : (Instr.sliceAt 41 (.pointer (some ⟨g, 0, none⟩)) none none none).run Tryd.prog w = .ok (.slice (some ⟨g, 0, none⟩) 32 32) w := by
 have hl : Tryd.prog.arrayLen 41 = 32 := by kernel_rfl
 have he : Tryd.prog.elem 41 = 5 := by kernel_rfl
 have hs : (sizeOf 5).run Tryd.prog w = .ok 1 w := sizeOf_one (by kernel_rfl) w
 rw [run_sliceAt_array_all (ht := by kernel_rfl), he, hl, hs]
 simp [Result.andThen, slicedAt, Addr.add]
def ChainRel (w : World) (bss : List (List UInt8)) (n g3 g4 : Nat) (i : Value) (wr : World) : Prop :=
 ∃ k : Nat, k + 1 ≤ n ∧ i = .int .i64 (k : Int) ∧ TagAt wr g4 (chainL (bss.take (k + 1))) ∧ NumAt 66 .u32 wr g3 shaK ∧ TagAt wr w.heap.size zeros32 ∧ Below w.heap.size w wr
end
section
open Go.RowKit Go.ChangeShapes Go.WideShapes Go.Deep
theorem open_rowsC {H : Type} {enc : TypeId × Value → H} {P : Program} {W : World} {r : Reach} {b0 base : Nat} {held : Bool} {t e q : TypeId} {v : Value} {d : DataW H} {ps : List MemPlace}
  (ht : P.underlying t = some (.slice e)) (he : P.underlying e = some (.slice q)) (hq : P.underlying q = some (.int .u8)) (ce : P.cellsOf e = 1) (cq : P.cellsOf q = 1) (be : P.bytesOf e = 24) (bq : P.bytesOf q = 1)
  (hval : Value.okWide P W r b0 t v) (hd : DataW.Trod enc P W base (fun _ => true) held t v d ps) (hw : ∀ x ∈ d.weights P t, x ≤ reachBytes) :
  ∃ a len cap bss, v = .slice a len cap ∧ RdS W W.heap.size a len bss ∧ len ≤ cap ∧ cap * 24 ≤ 140737488351232 ∧ (∀ bs ∈ bss, bs.length ≤ 140737488351232) ∧ CapS W a len := by
 obtain ⟨a, len, cap, bss, rfl, h1, h2, h3, h4⟩ := open_rowsS ht he hq ce cq be bq hval hd hw
 refine ⟨a, len, cap, bss, rfl, h1, h2, h3, h4, fun b o e1 j hj A1 n1 c1 hc => ?_⟩
 subst e1
 obtain ⟨fuel, hf⟩ := hd
 rcases open_int_rows ht he hq ce cq hf with ⟨hcs, _⟩ | ⟨x, l, c, A, L, C, Z, hcs, hbx, hl, hm, hx, hrow⟩
 ·simp [Value.cells] at hcs
 ·simp [Value.cells] at hcs
  obtain ⟨rfl, rfl, rfl⟩ := hcs
  obtain ⟨g1, g2, g3, _⟩ := hrow j (by omega)
  rw [add_none, hc] at g1
  injection g1 with g1
  injection g1 with _ g4 g5
  subst g4; subst g5
  exact ⟨g2, by unfold maxLen at g3; omega⟩
theorem rowsE_info : (Tryd.prog.info? 22).map (fun i => (i.zero, i.size, i.bytes)) = some (some (.slice none 0 0), 1, 24) := by kernel_rfl
theorem wpList_appendRows {ops : Array Oper} {rest : List Oper} {o : Oper} {a : Act} {Q : Exit → Act → World → Prop} (hgd : o.guard = none) (s x : Operand)
  (ho : o.op = .call { callee := .builtin .append, args := #[s, x], argTypes := #[44, 44] }) {B k n c : Nat} {A : Option Addr} {w wr : World} {v : Value} {xs news : List Value} (hs : a.eval s = v)
  (hx : a.eval x = .slice A n c) (hown : wr.ownsRow B 22 1 v k xs) (hl : news.length = n) (hnews : 0 < n → ∃ b o', A = some ⟨b, o', none⟩ ∧ ∀ j u, news[j]? = some u → wr.cell? ⟨b, o' + j, none⟩ = some u)
  (h1 : ∀ u ∈ news, u.oneCell' = true) (hb : Below B w wr) (hB : B ≤ wr.heap.size) (hk : k + n ≤ 1000)
  (h : ∀ v' w1, w1.ownsRow B 22 1 v' (k + n) (xs ++ news) → Below B w w1 → wr.heap.size ≤ w1.heap.size → wpList Tryd.prog ops Q rest (a.put o.dst v') w1) : wpList Tryd.prog ops Q (o :: rest) a wr := by
 obtain ⟨i0, hi, hz0, hz1, hz2⟩ := info_parts rowsE_info
 rcases A with _ | ad
 ·obtain rfl : n = 0 := by
   rcases Nat.eq_zero_or_pos n with h0 | h0
   ·exact h0
   ·obtain ⟨_, _, e, _⟩ := hnews h0; cases e
  obtain rfl : news = [] := List.eq_nil_of_length_eq_zero hl
  have hul := Tryd.underlying44
  have hrun : (Builtin.append_ #[44, 44] o.type #[v, .slice none 0 c]).run Tryd.prog wr = .ok v wr := by
   rcases hown.2 with ⟨rfl, rfl⟩ | ⟨g, cap, cur, rfl, _, _, hnc, _⟩
   ·simp [Builtin.append_, run_underlying hul, sizeOf, typeInfo, hi, Builtin.lenOf, Builtin.firstCells]
   ·simp [Builtin.append_, run_underlying hul, sizeOf, typeInfo, hi, Builtin.lenOf, Builtin.firstCells, hnc, storeCells]
  refine wpList_plain hgd fun K hK => ?_
  unfold Oper.wp execOp
  simp only [ho, resolve, invoke, builtin, Sem.run_bind, Sem.run_pure, Result.andThen_ok, List.map_toArray, List.map_cons, List.map_nil, hs, hx, hrun]
  exact hK _ _ (h v wr (by simpa using hown) hb (Nat.le_refl _))
 ·refine wpList_append_own _ hgd s x _ ho B 22 i0 (.slice none 0 0) 1 24 Tryd.underlying44 hi hz0 hz1 hz2 rfl (by decide) v k _ hs hown ad n c news hx (by simpa using hl) ?_ h1 ?_ ?_ hB ?_
  ·intro j u hu
   have hj : j < n := by
    rcases Nat.lt_or_ge j n with g | g
    ·exact g
    ·rw [List.getElem?_eq_none (by omega)] at hu; cases hu
   obtain ⟨b, of, e, hc⟩ := hnews (by omega)
   obtain rfl : ad = ⟨b, of, none⟩ := by injection e
   rw [add_none]
   exact hc j u hu
  ·unfold maxLen; omega
  ·omega
  ·intro v' w1 hown' hgrow _
   exact h v' w1 hown' (hb.grown hgrow hB (fun j hj => (hown.lt j hj).1)) hgrow.size
theorem rows_vals {w : World} {b o n : Nat} {bss : List (List UInt8)} (h : RdS w w.heap.size (some ⟨b, o, none⟩) n bss) (hc : CapS w (some ⟨b, o, none⟩) n) :
  ∃ vs : List Value, vs.length = n ∧ (∀ j u, vs[j]? = some u → w.cell? ⟨b, o + j, none⟩ = some u) ∧ ∀ j, j < n → ∃ A1 n1 c1, vs[j]? = some (.slice A1 n1 c1) ∧ Rd w w.heap.size A1 n1 (bss.getD j []) ∧ n1 ≤ c1 ∧ c1 ≤ 9223372036854775807 := by
 by_cases hn : n = 0
 ·subst hn
  exact ⟨[], rfl, fun j u hu => by simp at hu, fun j hj => absurd hj (Nat.not_lt_zero j)⟩
 ·obtain ⟨b', o', e, hb, hrow⟩ := h.2 (by omega)
  injection e with e
  injection e with e1 e2
  subst e1; subst e2
  have hv : ∀ j, j < n → ((List.range n).map fun j => (w.cell? ⟨b, o + j, none⟩).getD (.bool false))[j]? = w.cell? ⟨b, o + j, none⟩ := fun j hj => by
   obtain ⟨A1, n1, c1, h1, _⟩ := hrow j hj
   simp [hj, h1]
  refine ⟨(List.range n).map fun j => (w.cell? ⟨b, o + j, none⟩).getD (.bool false), by simp, fun j u hu => ?_, fun j hj => ?_⟩
  ·have hj : j < n := by
    rcases Nat.lt_or_ge j n with g | g
    ·exact g
    ·rw [List.getElem?_eq_none (by simpa using g)] at hu; cases hu
   rw [← hv j hj]; exact hu
  ·obtain ⟨A1, n1, c1, h1, h2⟩ := hrow j hj
   obtain ⟨h3, h4⟩ := hc b o rfl j hj A1 n1 c1 h1
   exact ⟨A1, n1, c1, by rw [hv j hj]; exact h1, h2, h3, h4⟩
theorem rows_own {w : World} {B g n c : Nat} {vs : List Value} {bss : List (List UInt8)} (h : w.ownsRow B 22 1 (.slice (some ⟨g, 0, none⟩) n c) n vs) (hl : bss.length = n)
  (hv : ∀ j, j < n → ∃ A1 n1 c1, vs[j]? = some (.slice A1 n1 c1) ∧ Rd w w.heap.size A1 n1 (bss.getD j []) ∧ n1 ≤ c1 ∧ c1 ≤ 9223372036854775807) :
  RdS w w.heap.size (some ⟨g, 0, none⟩) n bss ∧ CapS w (some ⟨g, 0, none⟩) n := by
 have hlt : 0 < n → g < w.heap.size := fun h0 => by
  obtain ⟨g', cap, hv', _, hlt⟩ := h.form h0
  simp only [Value.slice.injEq, Option.some.injEq, Addr.mk.injEq, and_true] at hv'
  obtain ⟨rfl, _⟩ := hv'
  exact hlt
 refine ⟨⟨hl, fun h0 => ⟨g, 0, rfl, hlt h0, fun j hj => ?_⟩⟩, fun b o e j hj A1 n1 c1 hc => ?_⟩
 ·obtain ⟨A1, n1, c1, h1, h2, _⟩ := hv j hj
  refine ⟨A1, n1, c1, ?_, h2⟩
  rw [Nat.zero_add, h.cellAt j (by omega)]; exact h1
 ·injection e with e
  injection e with e1 e2
  subst e1; subst e2
  obtain ⟨A2, n2, c2, h1, _, h3, h4⟩ := hv j hj
  rw [Nat.zero_add, h.cellAt j (by omega), h1] at hc
  injection hc with hc
  injection hc with _ h6 h7
  subst h6; subst h7
  exact ⟨h3, h4⟩
theorem open_u8z {H : Type} {enc : TypeId × Value → H} {P : Program} {W : World} {r : Reach} {b0 base : Nat} {held : Bool} {t e : TypeId} {v : Value} {d : DataW H} {ps : List MemPlace}
  (ht : P.underlying t = some (.slice e)) (he : P.underlying e = some (.int .u8)) (ce : P.cellsOf e = 1) (be : P.bytesOf e = 1)
  (hval : Value.okWide P W r b0 t v) (hd : DataW.Trod enc P W base (fun _ => true) held t v d ps) (hw : ∀ x ∈ d.weights P t, x ≤ reachBytes) :
  ∃ a len cap zs, v = .slice a len cap ∧ IsRow .u8 W a len cap zs ∧ cap ≤ 140737488351232 := by
 obtain ⟨a, len, cap, rfl⟩ := okWide_slice ht hval
 obtain ⟨fuel, hf⟩ := hd
 rcases open_ints ht he ce hf with ⟨hcs, _⟩ | ⟨x, l, c, zs, hcs, hb, hl, hm, hz, hx, hcell, hwz⟩
 ·simp [Value.cells] at hcs
  obtain ⟨rfl, rfl, rfl⟩ := hcs
  exact ⟨none, 0, 0, [], rfl, .inl ⟨rfl, rfl, rfl, rfl⟩, by omega⟩
 ·simp [Value.cells] at hcs
  obtain ⟨rfl, rfl, rfl⟩ := hcs
  have hz' : zs.length = cap := by simpa using hz
  have hdd := congrArg Prod.fst hx
  simp only at hdd
  subst hdd
  have h := hw (zs.length) (by
   simp only [DataW.weights, ht, be]
   refine List.mem_cons.2 (.inl ?_)
   simp [lits]
   omega)
  exact ⟨some x, len, cap, zs, rfl, .inr ⟨_, rfl, hl, hm, hz', hcell, hwz⟩, by unfold reachBytes at h; omega⟩
end
end Go.Proofs.YtopilgedcnbdaaaDoor