/- The program's disk (disk): the cached sectors settled, as a closure says; a crash; the disk armed, started. -/
import Derived.Test.YtopilgedcnbdaaaDoorTz
import Derived.Test.YtopilgedcnbdaaaDoorDiskC
import Derived.Deep.RegionHeld
namespace Go.Proofs.YtopilgedcnbdaaaDoor
set_option maxRecDepth 1000000
set_option maxHeartbeats 8000000
open Go.RowKit
set_option linter.unusedVariables false
set_option linter.unusedSimpArgs false
structure StaysOf (w : World) (i : FuncId) (cap : Array Value) (C : Nat → Prop) (sel : Nat → Bool) : Prop where
 ci : ∀ (args : Array Value) (w : World), (callFunc i args).run Tryd.prog w = .ok (.enter i args) w
 call : ∀ (n : Nat) (w' : World), n < 1024 → (∀ k, C k → w'.heap[k]? = w.heap[k]?) → Calls Tryd.prog i (#[.int .i64 (n : Int)] ++ cap) w' fun e w'' => e = .returned (.bool (sel n)) ∧ w' = w''
theorem keep_setCells (w : World) (b : Nat) : ∀ (vs : List Value) (o : Nat), Keep (· = b) w (w.setCells b o vs) := by
 intro vs
 induction vs generalizing w with
 | nil => exact fun o => Keep.refl _ _
 | cons v vs ih => exact fun o => ((Keep.refl (· = b) w).setCell ⟨b, o, none⟩ v rfl).trans (ih _ _)
theorem World.setCells_size (b : Nat) : ∀ (vs : List Value) (o : Nat) (w : World), (w.setCells b o vs).heap.size = w.heap.size
 | [], _, _ => rfl
 | v :: r, o, w => by rw [World.setCells, World.setCells_size b r]; simp
theorem keep_grown {w w' : World} {b : Nat} (h : w.grownBy w' (some b)) : Keep (· = b) w w' := ⟨h.os, h.tape, h.output, h.size, fun k hk hn => h.block k hk (fun e => hn (by injection e))⟩
def SetRel (w1 : World) (d fb mb B : Nat) (L : List Sec) (sel : Nat → Bool) (m : Nat) (i : Value) (wr : World) : Prop :=
 ∃ k : Nat, k ≤ m ∧ i = .int .i64 (k : Int) ∧ SecsAt wr fb (partF sel L k) ∧ Keep (· = fb) w1 wr
theorem partF_len64 {s : DS} (h : s.ok) (sel : Nat → Bool) (k i : Nat) (hi : i < s.L.length) : (partAt sel s.L k i).length = 64 := by
 unfold partAt
 split
 ·exact left1_len (h.secF hi) (fun c hc => h.secC hi hc) sel _
 ·exact h.secF hi
theorem dSettle (d fb mb : Nat) (stv : Value) (F : Nat → Prop) (s : DS) (w : World) (h : DkP w d fb mb stv F s) (i : FuncId) (cap : Array Value) (C : Nat → Prop) (sel : Nat → Bool) (hs : StaysOf w i cap C sel)
  (hC : ∀ k, C k → k < w.heap.size ∧ k ≠ fb) :
  Calls Tryd.prog 70 #[.pointer (some ⟨d, 0, none⟩), .func (.func i) #[] cap] w fun e w' => e = .returned (.tuple #[]) ∧ DkP w' d fb mb stv F ⟨fallL sel 0 s.L, s.up, s.left, s.stay⟩ ∧ Keep (fun k => k = fb ∨ k = mb) w w' := by
 have HD := qH (dDirty d F s w ⟨fb, mb, stv, h⟩)
 have hci := hs.ci
 have HS := qH hs.call
 have HC := qH hC
 have H := qH h
 clear h hs hC
 go_enter Tryd.func70, Tryd.ntmps70
 go_wp2_with fail
 refine (HD.out).mono ?_
 rintro e w1 ⟨A, c, rfl, hown, hb⟩
 have B1 := qH hb
 have R1 := qH (RdK.of_own hown)
 have H1 := qH (H.out.to hb)
 have HOH := qH (own_head hown)
 have HMM : Hid ((dirtyL s.L).length ≤ s.L.length) := dirtyFrom_le 0 s.L
 clear hown hb
 generalize hm : (dirtyL s.L).length = m at *
 have HM := qH hm
 clear hm
 go_wp2_with fail
 go_loopw [9] (fun i wr => SetRel w1 d fb mb w.heap.size s.L sel m i wr) (fun i _ => m - (intOf i).toNat)
 case atStart =>
  refine ⟨0, Nat.zero_le _, rfl, ?_, Keep.refl _ _⟩
  rw [partF_zero]
  exact H1.out.secs
 case round =>
  obtain ⟨k, hk, rfl, hsec, hkeep⟩ := hrel
  have S1 := qH hsec
  have K1 := qH hkeep
  have HK := qH hk
  clear hsec hkeep hk
  by_cases hlt : k < m
  ·have HLT : Hid (k < m) := hlt
   obtain ⟨g, rfl, hBg⟩ := HOH.out (by omega)
   have hg1 : g < w1.heap.size := by
    obtain ⟨b, o, e, hb, _⟩ := R1.out.2 (by omega)
    injection e with e; injection e with e1 _
    rw [e1]; exact hb
   have hgf : g ≠ fb := fun e => by have := H.out.lt _ H.out.ff; omega
   have hel : k < (dirtyL s.L).length := by rw [HM.out]; exact hlt
   have hget : (dirtyL s.L)[k]? = some (nx (dirtyL s.L) k) := by rw [nx_of_lt hel]; exact List.getElem?_eq_getElem hel
   have HGET := qH hget
   obtain ⟨hi1, hi2, hi3⟩ := dirtyL_get hget
   have hcell : wr.cell? ⟨g, k, none⟩ = some (.int .i64 (nx (dirtyL s.L) k : Int)) := by
    rw [K1.out.cell (a := ⟨g, k, none⟩) hg1 hgf]
    have := R1.out.at (j := k) hlt
    rw [Nat.zero_add] at this
    exact this
   generalize nx (dirtyL s.L) k = j at *
   obtain ⟨c, hc⟩ := Option.isSome_iff_exists.1 hi2
   have HC2 := qH hc
   have HJ := qH hi1
   have HR3 := qH hi3
   have hk1024 : k < 1024 := by have := H.out.ok.len; have := HMM.out; omega
   have HCALL := qH (HS.out k wr hk1024 (fun b hb => ((K1.out.block b (Nat.lt_of_lt_of_le (HC.out b hb).1 B1.out.size) (HC.out b hb).2).trans (B1.out.block b (HC.out b hb).1))))
   have hgl : g < wr.heap.size := Nat.lt_of_lt_of_le hg1 K1.out.size
   have hkI : (k : Int) < 1024 := by omega
   clear hget hi1 hi2 hi3 hc hk1024 hel
   go_wp2_with fail
   refine (HCALL.out).mono ?_
   rintro e w2 ⟨rfl, rfl⟩
   cases hsk : sel k
   ·have HSK := qH hsk
    clear hsk
    go_wp2_with fail
    go_roundw
    case rel =>
     refine ⟨k + 1, HLT.out, by go_num, ?_, K1.out⟩
     rw [partF_skip sel HGET.out HSK.out]
     exact S1.out
    case measure => have := HLT.out; simp [intOf]; omega
   ·have HSK := qH hsk
    clear hsk
    have HX0 : Hid (wr.cell? ⟨d, 0, none⟩ = some (.slice (some ⟨fb, 0, none⟩) s.L.length s.L.length)) := by
     show _ = _
     rw [K1.out.cell (a := ⟨d, 0, none⟩) (H1.out.lt _ H1.out.fd) H.out.df]
     exact (dkCell H1.out.obj).1
    have HX1 : Hid (wr.cell? ⟨d, 1, none⟩ = some (.map (some mb))) := by
     show _ = _
     rw [K1.out.cell (a := ⟨d, 1, none⟩) (H1.out.lt _ H1.out.fd) H.out.df]
     exact (dkCell H1.out.obj).2.1
    have HXM : Hid (MapIs wr mb s.L) := H1.out.map.block (K1.out.block mb (H1.out.lt _ H1.out.fm) (fun e => H.out.fmne e.symm))
    have HDF : Hid (d ≠ fb) := H.out.df
    have HMF : Hid (mb ≠ fb) := fun e => H.out.fmne e.symm
    have HLEN := qH H.out.ok.len
    have HCL := qH (H.out.ok.secC HJ.out HC2.out)
    have hjn : (j : Int) < (s.L.length : Int) := by have := HJ.out; omega
    clear hcell
    go_wp2_with fail
    replace S1 : Hid (SecsAt wr.drew fb (partF sel s.L k)) := S1.out.block rfl
    replace K1 : Hid (Keep (· = fb) w1 wr.drew) := K1.out.drew
    replace HX0 : Hid (wr.drew.cell? ⟨d, 0, none⟩ = some (.slice (some ⟨fb, 0, none⟩) s.L.length s.L.length)) := HX0.out
    replace HX1 : Hid (wr.drew.cell? ⟨d, 1, none⟩ = some (.map (some mb))) := HX1.out
    replace HXM : Hid (MapIs wr.drew mb s.L) := HXM.out.block rfl
    generalize hwd : wr.drew = wd at *
    have HWD := qH hwd
    clear hwd
    refine wp_region_held_drew (S := (fun w' => ∀ b, b ≠ fb → w'.heap[b]? = wd.heap[b]?)) (by kernel_rfl) ((by rw [HWD.out]; exact fun _ _ => rfl)) (fun hHeld => ?_)
    rw [HWD.out] at hHeld ⊢
    refine tk 0 ?_
    simp only [pR]
    refine tk 1 ?_
    simp only [pR]
    refine tk 2 ?_
    simp only [pR]
    refine tw 3 rfl (by intro w hSw; (try dsimp only at hSw); (have c0 := (World.cell?_of_block (a := ⟨d, 0, none⟩) (hSw d HDF.out)).trans HX0.out); clear hSw; go_simp; (try with_reducible rfl)) ?_
    simp only [pR]
    refine tk 4 ?_
    simp only [pR]
    refine tk 5 ?_
    simp only [pR]
    refine tk 6 ?_
    simp only [pR]
    refine tk 7 ?_
    simp only [pR]
    refine tw 8 rfl (by intro w hSw; (try dsimp only at hSw); (have c1 := (World.cell?_of_block (a := ⟨d, 1, none⟩) (hSw d HDF.out)).trans HX1.out); clear hSw; go_simp; (try with_reducible rfl)) ?_
    simp only [pR]
    refine tk 9 ?_
    simp only [pR]
    refine tw 10 rfl (by intro w hSw; (try dsimp only at hSw); (have hl := ((HXM.out.block (hSw mb HMF.out)).look HLEN.out HJ.out (sec_zero _)).2); rw [HC2.out] at hl; simp only [Option.map_some, Option.getD_some, secV] at hl; clear hSw; go_simp; (try with_reducible rfl)) ?_
    simp only [pR]
    refine tk 11 ?_
    simp only [pR]
    have HTH : Hid (wd.there fb (j * 64) (arrB c).size) := by rw [arrB_size, HCL.out]; exact S1.out.thereAt (by rw [partF_length]; exact HJ.out)
    refine rd1 12 (fun K hK => ?_)
    rw [if_pos (by rfl)]
    refine wp_store_mid 73 _ _ rfl fb (j * 64) (arrB c) rfl rfl HTH.out (sec_size HCL.out) (arrB_one _) ?_
    have HKS := qH (keep_setCells wd fb (arrB c).toList (j * 64))
    have HS2 : Hid (SecsAt (wd.setCells fb (j * 64) (arrB c).toList) fb ((partF sel s.L k).set j c)) := S1.out.set (i := j) (by rw [partF_length]; exact HJ.out) HCL.out
    refine hK.out _ _ (fun b hb => ?_) (fun hHeld => ?_)
    ·rcases Nat.lt_or_ge b wd.heap.size with g | g
     ·exact HKS.out.block b g hb
     ·rw [Array.getElem?_eq_none g, Array.getElem?_eq_none (by rw [World.setCells_size]; exact g)]
    clear hK K hHeld
    refine wpAnyH_done (by kernel_rfl) ?_ _
    replace K1 := qH (K1.out.trans HKS.out)
    generalize wd.setCells fb (j * 64) (arrB c).toList = w5 at *
    go_wp2_with fail
    go_roundw
    case rel =>
     refine ⟨k + 1, HLT.out, by go_num, ?_, K1.out⟩
     rw [partF_succ sel HGET.out]
     have e : left1 sel k (secAt s.L j) = c := by unfold left1; rw [HC2.out]; simp [HSK.out]
     rw [e]
     exact HS2.out
    case measure => have := HLT.out; simp [intOf]; omega
  ·obtain rfl : k = m := by have := HK.out; omega
   have hkI : (k : Int) < 1025 := by have := H.out.ok.len; have := HMM.out; omega
   have HX0 : Hid (wr.cell? ⟨d, 1, none⟩ = some (.map (some mb))) := by
    show _ = _
    rw [K1.out.cell (a := ⟨d, 1, none⟩) (H1.out.lt _ H1.out.fd) H.out.df]
    exact (dkCell H1.out.obj).2.1
   have HXM : Hid (MapIs wr mb s.L) := H1.out.map.block (K1.out.block mb (H1.out.lt _ H1.out.fm) (fun e => H.out.fmne e.symm))
   obtain ⟨w6, hclr, hm6, hturn⟩ := HXM.out.clear (L' := fallL sel 0 s.L) (fun x hx => by obtain ⟨_, _, _, rfl⟩ := fallL_mem hx; rfl) 0
   have c1 := HX0.out
   have HM6 := qH hm6
   have HT6 := qH hturn
   clear hm6 hturn
   go_wp2_with fail
   refine bodyPost_end (results_none rfl _ _ _) rfl ⟨rfl, ?_, ?_⟩
   ·have K6 : Keep (· = mb) wr w6 := keep_grown HT6.out.grown
    have KA : Keep (fun b => b = fb ∨ b = mb) w1 w6 := (K1.out.more (fun _ h => .inl h)).trans (K6.more (fun _ h => .inr h))
    have S6 := (S1.out.block (K6.block fb (Nat.lt_of_lt_of_le (H1.out.lt _ H1.out.ff) K1.out.size) H.out.fmne))
    have e : partF sel s.L k = (fallL sel 0 s.L).map (·.1) := by rw [← partF_all, HM.out]
    rw [e] at S6
    refine ⟨?_, S6, HM6.out, fun hn => ?_, H.out.one, H.out.fd, H.out.ff, H.out.fm, H.out.df, H.out.dm, H.out.fmne, fun b hb => Nat.lt_of_lt_of_le (H1.out.lt b hb) KA.size, H.out.ok.fallen sel H.out.ok.lt s.stay⟩
    ·simp only [fallL_length]
     rw [KA.block d (H1.out.lt _ H1.out.fd) (fun h => h.elim H.out.df H.out.dm)]
     exact H1.out.obj
    ·obtain ⟨cb, a1, a2, a3, a4, a5⟩ := H1.out.st hn
     exact ⟨cb, a1.block (KA.block cb (H1.out.lt _ a2) (fun h => h.elim a4 a5)), a2, a3, a4, a5⟩
   ·exact ((Keep.of_below B1.out).trans (K1.out.more (fun _ h => .inl h))).trans ((keep_grown HT6.out.grown).more (fun _ h => .inr h))
end Go.Proofs.YtopilgedcnbdaaaDoor