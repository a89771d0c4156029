/- For any slot, any place, any pieces the law SlotBack of citadellaw15 returns true: what was written, piece by piece, one behind the other, is read, and got by its hash; no sector of the other slot, or outside, has changed. Conditions: none beyond those that the statement itself prints. -/
import Derived.Test.YtopilgedcnbdaaaDoorTz
import Derived.Test.YtopilgedcnbdaaaDoorRows
import Derived.Test.YtopilgedcnbdaaaDoorTie
import Derived.Test.YtopilgedcnbdaaaDoorCards
import Derived.Test.YtopilgedcnbdaaaDoorShaLaid
import Derived.Test.YtopilgedcnbdaaaDoorQW
import Derived.Test.YtopilgedcnbdaaaDoorQN
import Derived.SizedLaws
import Derived.WalkKit
import Derived.ProofKit
import Derived.OpenShut
import Derived.ShutString
import Derived.ChangeOld
import Derived.Below
namespace Go.Proofs.YtopilgedcnbdaaaDoor.slotBack
set_option maxRecDepth 1000000
set_option maxHeartbeats 8000000
open Go.ChangeShapes Go.WideShapes Go.ChangeAt Go.RowKit
open Go.ChangeMaps (open_string shut_string)
set_option linter.unusedVariables false
set_option linter.unusedSimpArgs false
theorem own : ownKnob Tryd.prog.godebug = none := by kernel_rfl
theorem laidOut : laidOutB Tryd.prog = true := by kernel_rfl
theorem piece_at {w : World} {A : Option Addr} {n : Nat} {bss : List (List UInt8)} (h : RdS w w.heap.size A n bss) (hc : CapS w A n) {k : Nat} (hk : k < n) :
  ∃ b o A' m c, A = some ⟨b, o, none⟩ ∧ m = (bss.getD k []).length ∧ Rd w w.heap.size A' m (bss.getD k []) ∧ m ≤ c ∧ c ≤ 9223372036854775807 ∧ ∀ wr, Below w.heap.size w wr → wr.cell? ⟨b, o + k, none⟩ = some (.slice A' m c) := by
 obtain ⟨b, o, e, hb, hcell⟩ := h.2 (by omega)
 obtain ⟨A', m, c, h1, h2⟩ := hcell k hk
 obtain ⟨h3, h4⟩ := hc b o e k hk A' m c h1
 exact ⟨b, o, A', m, c, e, h2.1.symm, h2, h3, h4, fun wr hw => (hw.cell (by exact hb)).trans h1⟩
def preB (bss : List (List UInt8)) (k : Nat) : List UInt8 := (bss.take k).flatten
theorem preB_succ {bss : List (List UInt8)} {k : Nat} (hk : k < bss.length) : preB bss (k + 1) = preB bss k ++ bss.getD k [] := by
 unfold preB
 rw [List.take_succ_eq_append_getElem hk, List.flatten_append]
 simp [List.getD, hk]
theorem preB_le (bss : List (List UInt8)) {k : Nat} (hk : k ≤ bss.length) : (preB bss k).length ≤ (preB bss bss.length).length := by
 have e : bss = bss.take k ++ bss.drop k := (List.take_append_drop k bss).symm
 have h2 : preB bss bss.length = preB bss k ++ (bss.drop k).flatten := by
  unfold preB
  rw [List.take_length]
  conv => lhs; rw [e]
  rw [List.flatten_append]
 rw [h2, List.length_append]
 omega
def CountRel (w : World) (bss : List (List UInt8)) (n : Nat) (s i : Value) (wr : World) : Prop :=
 ∃ k : Nat, k ≤ n ∧ k ≤ 40 ∧ (preB bss k).length ≤ 3000 ∧ s = .int .i64 ((preB bss k).length : Int) ∧ i = .int .i64 (k : Int) ∧ w = wr
structure BackS (sl p : Nat) (bs : List UInt8) (s : DS) : Prop where
 calm : Calm sl s
 len : s.L.length = 323
 all : allS sl s 64 = List.replicate p 0 ++ bs ++ List.replicate (4096 - p - bs.length) 0
 other : allS (1 - sl) s 64 = List.replicate 4096 0
 dirty : ∀ i ∈ dirtyL s.L, 3 + 64 * sl ≤ i ∧ i < 3 + 64 * sl + 64
theorem BackS.new {sl p : Nat} (hs : sl = 0 ∨ sl = 1) (hp : p ≤ 4096) : BackS sl p [] (DS.new 323) := by
 refine ⟨Calm.new (by omega) (by decide), by simp [DS.new], ?_, allS_new (by omega) (by decide), fun i hi => by rw [dirty_new] at hi; cases hi⟩
 rw [allS_new (by omega) (by decide), List.append_nil, List.length_nil, Nat.sub_zero, List.replicate_append_replicate, show p + (4096 - p) = 4096 from by omega]
theorem setB_next {p : Nat} {bs b : List UInt8} (h : p + bs.length + b.length ≤ 4096) : setB (List.replicate p 0 ++ bs ++ List.replicate (4096 - p - bs.length) 0) (p + bs.length) b = List.replicate p 0 ++ (bs ++ b) ++ List.replicate (4096 - p - (bs ++ b).length) 0 := by
 have e1 : (List.replicate p (0 : UInt8) ++ bs).length = p + bs.length := by simp
 unfold setB
 rw [List.take_left' e1, List.drop_append, List.drop_of_length_le (l := List.replicate p (0 : UInt8) ++ bs) (by rw [e1]; omega), e1, List.nil_append, List.drop_replicate, List.length_append]
 rw [show 4096 - p - bs.length - (p + bs.length + b.length - (p + bs.length)) = 4096 - p - (bs.length + b.length) from by omega]
 simp only [List.append_assoc]
theorem BackS.step {sl p : Nat} {bs b : List UInt8} {s : DS} (h : BackS sl p bs s) (hs : sl = 0 ∨ sl = 1) (hp : p + bs.length + b.length ≤ 4096) :
  ∃ s', writeS (sl : Int) ((p + bs.length : Nat) : Int) b s = (0, s') ∧ BackS sl p (bs ++ b) s' := by
 obtain ⟨s', h1, h2, h3, h4, h5, h6⟩ := writeS_calm (p := p + bs.length) (b := b) h.calm hs hp
 refine ⟨s', h1, ⟨h2, h3.trans h.len, ?_, ?_, fun i hi => ?_⟩⟩
 ·rw [h4, h.all, setB_next hp]
 ·rw [h5 (1 - sl) (by omega) (by rw [h.len]; omega), h.other]
 ·rcases h6 i hi with h7 | h7
  ·exact h.dirty i h7
  ·exact h7
theorem back_w3 {kk : Nat} (h : kk ≤ 1) : IntKind.i64.wrap ((kk : Int) + 1) = (kk : Int) + 1 := by rw [IntKind.wrap_i64]; omega
theorem back_w4 {kk : Nat} (h : kk ≤ 1) : IntKind.i64.wrap (((kk : Int) + 1) * 64) = ((kk : Int) + 1) * 64 := by rw [IntKind.wrap_i64]; omega
theorem back_w5 {kk : Nat} (h : kk ≤ 1) : IntKind.i64.wrap (3 + ((kk : Int) + 1) * 64) = 3 + ((kk : Int) + 1) * 64 := by rw [IntKind.wrap_i64]; omega
theorem back_w6 {kk : Nat} (h : kk ≤ 1) : IntKind.i64.wrap (1 - (kk : Int)) = ((1 - kk : Nat) : Int) := by rw [IntKind.wrap_i64]; omega
theorem keep_of_belowB {B : Nat} {w w' : World} (h : Below B w w') : Keep (fun k => B ≤ k) w w' := ⟨h.os, h.tape, h.output, h.size, fun k _ hn => h.block k (by omega)⟩
def WrRel (w : World) (B d : Nat) (F : Nat → Prop) (sl p : Nat) (bss : List (List UInt8)) (v i : Value) (wr : World) : Prop :=
 ∃ (k : Nat) (s : DS), k ≤ bss.length ∧ i = .int .i64 (k : Int) ∧ wr.ownsRow B 5 1 v (p + (preB bss k).length) ((List.replicate p 0 ++ preB bss k).map bval) ∧ DkAt wr d F s ∧ BackS sl p (preB bss k) s ∧ B ≤ wr.heap.size ∧ Below w.heap.size w wr
theorem walk (a0 : Int) (a1 : Int) (a2 : Option Addr) (len2 cap2 : Nat) (bss2 : List (List UInt8)) (w : World) (hpr : Pr w) (w0 : (Lit.int .i64 a0).wf = true) (w1 : (Lit.int .i64 a1).wf = true) (w2 : RdS w w.heap.size a2 len2 bss2 ∧ len2 ≤ cap2 ∧ cap2 * 24 ≤ 140737488351232 ∧ (∀ bs ∈ bss2, bs.length ≤ 140737488351232) ∧ CapS w a2 len2) :
  Calls Tryd.prog 4 #[.int .i64 a0, .int .i64 a1, .slice a2 len2 cap2] w fun e w' => e = .returned (.bool true) ∧ Below w.heap.size w w' := by
 obtain ⟨r2, hcap2, hcap2', hcs2, hcc2⟩ := w2
 obtain ⟨hn1, hn1'⟩ := wf_i64 w1
 have R2 := qH r2
 have HL2 := qH r2.1
 have HCC := qH hcc2
 have HPW := qH hpr
 have HLC : Hid (len2 ≤ 140737488351232) := by show _ ≤ _; omega
 have HA1 : Hid (a1 ≤ 9223372036854775807) := hn1'
 have HB2 := qH hcs2
 clear w0 w1 r2 hcap2 hcap2' hcs2 hcc2 hpr hn1 hn1'
 go_enter Tryd.func4, Tryd.ntmps4
 go_wp2_with fail
 refine (sAwake w).mono ?_
 rintro e wA ⟨rfl, hb⟩
 have BA := qH hb
 clear hb
 go_wp2_with fail
 go_loopw [7, 8] (fun s i wr => CountRel wA bss2 len2 s i wr) (fun _ i _ => len2 - (intOf i).toNat)
 case atStart => exact ⟨0, Nat.zero_le _, Nat.zero_le _, Nat.zero_le _, rfl, rfl, rfl⟩
 case round =>
  obtain ⟨k, hk, hk40, hs, rfl, rfl, rfl⟩ := hrel
  have HK : Hid (k ≤ len2) := hk
  have HK40 : Hid (k ≤ 40) := hk40
  have HS : Hid ((preB bss2 k).length ≤ 3000) := hs
  by_cases hlt : k < len2
  ·have HLT : Hid (k < len2) := hlt
   obtain ⟨b, o, A', m, c, rfl, hm, -, -, hcm, hcell⟩ := piece_at R2.out HCC.out hlt
   have c0 := hcell wA BA.out
   have hkI : (k : Int) < (len2 : Int) := by omega
   have hk41 : (k : Int) < 41 := by omega
   have HM := qH hm
   have hm47 : (m : Int) ≤ 140737488351232 := by
    have := HB2.out (bss2.getD k []) (by rw [List.getD, List.getElem?_eq_getElem (by rw [HL2.out]; exact hlt)]; exact List.getElem_mem _)
    omega
   have HPN : Hid ((preB bss2 (k + 1)).length = (preB bss2 k).length + m) := by
    show _ = _
    rw [preB_succ (by rw [HL2.out]; exact hlt), List.length_append, ← HM.out]
   generalize (preB bss2 k).length = sn at *
   have hsI : (sn : Int) < 3001 := by omega
   clear hcell hk hk40 hs hm
   by_cases hbig : (sn : Int) + (m : Int) > 3000
   ·go_wp2_with fail
    go_ret
    exact ⟨rfl, BA.out⟩
   by_cases h40 : (k : Int) ≥ 40
   ·go_wp2_with fail
    go_ret
    exact ⟨rfl, BA.out⟩
   go_wp2_with fail
   go_roundw
   case rel => exact ⟨k + 1, HLT.out, by omega, by rw [HPN.out]; omega, by rw [HPN.out]; go_num, by go_num, rfl⟩
   case measure => have := HLT.out; simp [intOf]; omega
  ·obtain rfl : k = len2 := by omega
   have HTOT : Hid ((preB bss2 bss2.length).length ≤ 3000) := by show _ ≤ _; rw [HL2.out]; exact hs
   obtain ⟨tn, htn⟩ : ∃ tn, (preB bss2 k).length = tn := ⟨_, rfl⟩
   rw [htn]
   have HTN : Hid ((preB bss2 bss2.length).length = tn) := by show _ = _; rw [HL2.out]; exact htn
   have htI : (tn : Int) ≤ 3000 := by omega
   have HTI : Hid (tn ≤ 3000) := by show _ ≤ _; omega
   have hkk : ¬ (k : Int) < (k : Int) := by omega
   clear hk hk40 hs hlt HK HS htn
   go_wp2_with fail
   refine (sEmpty wA).mono ?_
   rintro e wB ⟨d, rfl, F, hd, hf, hb⟩
   have HD := qH hd
   have HFW : Hid (∀ j, F j → w.heap.size ≤ j) := fun j hj => Nat.le_trans BA.out.size (hf j hj)
   have HFB : Hid (∀ j, F j → j < wB.heap.size) := hd.lt
   have BB := qH (BA.out.trans (hb.mono BA.out.size))
   clear hd hf hb
   have e1 : IntKind.i64.wrap (4096 - (tn : Int)) = 4096 - (tn : Int) := by rw [IntKind.wrap_i64]; omega
   by_cases c1 : a0 < 0
   ·skip
    go_wp2_with fail
    go_ret
    exact ⟨rfl, BB.out⟩
   by_cases c2 : a0 > 1
   ·skip
    go_wp2_with fail
    go_ret
    exact ⟨rfl, BB.out⟩
   by_cases c3 : a1 < 0
   ·skip
    go_wp2_with fail
    go_ret
    exact ⟨rfl, BB.out⟩
   by_cases c4 : a1 > 4096 - (tn : Int)
   ·skip
    go_wp2_with fail
    go_ret
    exact ⟨rfl, BB.out⟩
   obtain ⟨kk, rfl⟩ : ∃ n : Nat, a0 = (n : Int) := ⟨a0.toNat, by omega⟩
   obtain ⟨p, rfl⟩ : ∃ n : Nat, a1 = (n : Int) := ⟨a1.toNat, by omega⟩
   have HKK : Hid (kk = 0 ∨ kk = 1) := by show _ ∨ _; omega
   have HPT : Hid (p + tn ≤ 4096) := by show _ ≤ _; omega
   have hp47 : (p : Int) ≤ 4096 := by omega
   have hp0 : (0 : Int) ≤ (p : Int) := by omega
   go_wp2_with (refine wpList_makeB isU8 rfl _ _ rfl p rfl rfl rfl rfl (by omega) (Below.refl _ wB) (Nat.le_refl _) ?_; intro w4 hown4 hb4 hlt4)
   have OWN4 := qH hown4
   have HB4 := qH hb4
   clear hown4 hb4 hlt4 c1 c2 c3 c4 e1 hp47 hp0 htI hkk
   go_loopw [11, 12] (fun v i wr => WrRel w wB.heap.size d F kk p bss2 v i wr) (fun _ i _ => k - (intOf i).toNat)
   case atStart => exact ⟨0, DS.new 323, Nat.zero_le _, rfl, by simpa [preB] using OWN4.out, HD.out.to HB4.out, by simpa [preB] using BackS.new (p := p) HKK.out (by have := HPT.out; omega), HB4.out.size, BB.out.trans (HB4.out.mono BB.out.size)⟩
   case round =>
    obtain ⟨j, s, hj, rfl, hown, hdk, hbs, hsz, hbw⟩ := hrel
    have OWN := qH hown
    have DK := qH hdk
    have BS := qH hbs
    have HSZ : Hid (wB.heap.size ≤ _) := hsz
    have BW := qH hbw
    have HJ : Hid (j ≤ k) := by show _ ≤ _; rw [← HL2.out]; exact hj
    have HLE : Hid ((preB bss2 j).length ≤ tn) := by show _ ≤ _; rw [← HTN.out]; exact preB_le bss2 hj
    have HLN : Hid (0 < s.L.length) := by show _ < _; rw [hbs.len]; decide
    obtain ⟨A9, c9, rfl⟩ := own_slice hown
    obtain ⟨hc91, hc92⟩ := own_cap hown
    clear hown hdk hbs hsz hbw hj
    obtain ⟨q, hq⟩ : ∃ q, p + (preB bss2 j).length = q := ⟨_, rfl⟩
    have HQ := qH hq
    rw [hq] at OWN hc91 ⊢
    have hqI : (q : Int) ≤ 4096 := by have h1 := HPT.out; have h2 := HLE.out; omega
    have HQI : Hid (q ≤ 4096) := by show _ ≤ _; omega
    have HC91 : Hid (q ≤ c9) := hc91
    have HC92 : Hid (c9 ≤ 9223372036854775807) := hc92
    clear hq hc91 hc92
    by_cases hlt : j < k
    ·have HLT : Hid (j < k) := hlt
     have hjI : (j : Int) < (k : Int) := by omega
     have hj41 : (j : Int) < 41 := by have := HK40.out; omega
     obtain ⟨b, o, A', m, c, rfl, hm, hrd, hmc, hcm, hcell⟩ := piece_at R2.out HCC.out hlt
     have RP := qH hrd
     have HCELL := qH hcell
     have HMC : Hid (m ≤ c) := hmc
     have HCM : Hid (c ≤ 9223372036854775807) := hcm
     have c0 := hcell _ BW.out
     have HPN : Hid (preB bss2 (j + 1) = preB bss2 j ++ bss2.getD j []) := preB_succ (by rw [HL2.out]; exact hlt)
     have HNX : Hid (p + (preB bss2 j).length + (bss2.getD j []).length ≤ 4096) := by
      show _ ≤ _
      have h1 := preB_le bss2 (k := j + 1) (by rw [HL2.out]; exact hlt)
      rw [HPN.out, List.length_append, HTN.out] at h1
      have := HPT.out
      omega
     obtain ⟨s', hw, hbs'⟩ := BS.out.step (b := bss2.getD j []) HKK.out HNX.out
     rw [HQ.out] at hw
     have BS' := qH hbs'
     have HW := qH hw
     have HMQ : Hid (q + m ≤ 4096) := by show _ ≤ _; rw [← HQ.out, hm]; exact HNX.out
     have HM := qH hm
     have OFP : Hid (Off A' m F) := hrd.off HFW.out
     clear hrd hmc hcm hcell hw hbs' hm hlt
     go_wp2_with fail
     clear c0
     refine (slWrite d F s (kk : Int) (q : Int) A' m c (bss2.getD j []) _ DK.out HLN.out (by have := HQI.out; omega) (RP.out.to BW.out) OFP.out HMC.out HCM.out).mono ?_
     rw [HW.out]
     rintro e w5 ⟨rfl, hd, hk5⟩
     have D5 := qH hd
     have B5 := qH (Keep.below BW.out hk5 BW.out.size HFW.out)
     have O5 := qH (own_kept OWN.out hk5 (fun b' e' hf => by have h1 := (own_blockGe OWN.out e'); have h2 := HFB.out _ hf; omega))
     have HS5 : Hid (wB.heap.size ≤ w5.heap.size) := Nat.le_trans HSZ.out hk5.size
     have c0 := HCELL.out w5 B5.out
     clear hd hk5 OWN DK
     go_wp2_with (at_builtin; refine wpList_pushAll isU8 rfl _ _ rfl rfl rfl O5.out (RP.out.to B5.out) (Below.refl wB.heap.size w5) HS5.out (by have := HMQ.out; omega) ?_; intro v6 w6 hown6 hb6 hs6)
     go_roundw
     case rel =>
      refine ⟨j + 1, s', by rw [HL2.out]; exact HLT.out, by go_num, ?_, D5.out.kept (keep_of_belowB hb6) (fun b' hf hge => by have := HFB.out _ hf; omega), by rw [HPN.out]; exact BS'.out, Nat.le_trans HS5.out hs6, B5.out.trans (hb6.mono BB.out.size)⟩
      rw [HPN.out, List.length_append, ← List.append_assoc, ← Nat.add_assoc, HQ.out, ← HM.out]
      exact hown6
     case measure => have := HLT.out; simp [intOf]; omega
    ·obtain rfl : j = k := by have := HJ.out; omega
     have hjj : ¬ (j : Int) < (j : Int) := by omega
     obtain ⟨X, hX⟩ : ∃ X, List.replicate p 0 ++ preB bss2 j = X := ⟨_, rfl⟩
     have HXL : Hid (X.length = q) := by
      show _ = _
      rw [← hX, List.length_append, List.length_replicate]
      exact HQ.out
     have HRX : Hid (readS (kk : Int) (q : Int) s = (X, 0)) := by
      show _ = _
      rw [readS_calm BS.out.calm HKK.out HQI.out, BS.out.all, hX, List.take_left' HXL.out]
     have HGX : Hid (getS (kk : Int) (q : Int) (shaL X) s = (X, 0)) := by
      show _ = _
      unfold getS
      rw [HRX.out, if_neg (by simp), if_pos rfl]
     have HRO : Hid (readS ((1 - kk : Nat) : Int) ((4096 : Nat) : Int) s = (List.replicate 4096 0, 0)) := by
      show _ = _
      have hc : Calm (1 - kk) s := ⟨BS.out.calm.up, BS.out.calm.left, BS.out.calm.ok, by rw [BS.out.len]; omega⟩
      rw [readS_calm hc (by have := HKK.out; omega) (Nat.le_refl _), BS.out.other, List.take_of_length_le (by simp)]
     have HDI := qH BS.out.dirty
     have HDL : Hid ((dirtyL s.L).length ≤ 1024) := by
      show _ ≤ _
      have := dirtyFrom_le 0 s.L
      have h2 := BS.out.len
      unfold dirtyL
      omega
     rw [hX] at OWN
     have RX := qH (Rd.of_own OWN.out)
     clear hX hlt OWN BS
     go_wp2_with fail
     refine (slRead d F s (kk : Int) (q : Int) _ DK.out HLN.out).mono ?_
     rw [HRX.out]
     rintro e w5 ⟨A5, m5, c5, rfl, hrd, -, -, hb⟩
     have R5 := qH hrd
     replace RX := qH (RX.out.to hb)
     have D5 := qH (DK.out.to hb)
     have B5 := qH (BW.out.trans (hb.mono BW.out.size))
     clear hrd hb DK BW HRX
     go_wp2_with fail
     refine (wSha A9 q c9 X w5 (HPW.out.to B5.out) RX.out (by have := HQI.out; omega) HC91.out HC92.out).mono ?_
     rintro e w6 ⟨rfl, hb⟩
     replace R5 := qH (R5.out.to hb)
     replace RX := qH (RX.out.to hb)
     replace D5 := qH (D5.out.to hb)
     replace B5 := qH (B5.out.trans (hb.mono B5.out.size))
     clear hb
     go_wp2_with fail
     refine (slGet d F s (kk : Int) (q : Int) (shaL X) w6 (HPW.out.to B5.out) D5.out HLN.out (shaL_len X)).mono ?_
     rw [HGX.out]
     rintro e w7 ⟨A7, m7, c7, rfl, hrd, -, -, hb⟩
     have R7 := qH hrd
     replace R5 := qH (R5.out.to hb)
     replace RX := qH (RX.out.to hb)
     replace D5 := qH (D5.out.to hb)
     replace B5 := qH (B5.out.trans (hb.mono B5.out.size))
     clear hrd hb HGX
     go_wp2_with fail
     refine (wSame A5 A9 m5 q c5 c9 w7.heap.size X X w7 R5.out RX.out).mono ?_
     rintro e w' ⟨rfl, rfl⟩
     rw [show decide (X = X) = true from decide_eq_true rfl]
     go_wp2_with fail
     refine (wSame A7 A9 m7 q c7 c9 w7.heap.size X X w7 R7.out RX.out).mono ?_
     rintro e w' ⟨rfl, rfl⟩
     rw [show decide (X = X) = true from decide_eq_true rfl]
     clear R5 R7 RX
     go_wp2_with fail
     refine (dDirty d F s w7 D5.out).mono ?_
     rintro e w8 ⟨A8, c8, rfl, hown, hb⟩
     have RK := qH (RdK.of_own hown)
     have D8 := qH (D5.out.to hb)
     have B8 := qH (B5.out.trans (hb.mono B5.out.size))
     clear hown hb D5 B5
     generalize dirtyL s.L = D at *
     have hk1 : kk ≤ 1 := by have := HKK.out; omega
     have v1 := pl_w1 hk1
     have v2 := pl_w2 hk1
     have v3 : IntKind.i64.wrap ((kk : Int) + 1) = (kk : Int) + 1 := back_w3 hk1
     have v4 : IntKind.i64.wrap (((kk : Int) + 1) * 64) = ((kk : Int) + 1) * 64 := back_w4 hk1
     have v5 : IntKind.i64.wrap (3 + ((kk : Int) + 1) * 64) = 3 + ((kk : Int) + 1) * 64 := back_w5 hk1
     have v6 : IntKind.i64.wrap (1 - (kk : Int)) = ((1 - kk : Nat) : Int) := back_w6 hk1
     obtain ⟨o, ho⟩ : ∃ o, 1 - kk = o := ⟨_, rfl⟩
     rw [ho] at v6 HRO
     clear ho hk1
     go_wp2_with fail
     go_loopw [18] (fun i wr => ∃ z : Nat, z ≤ D.length ∧ i = .int .i64 (z : Int) ∧ w8 = wr) (fun i _ => D.length - (intOf i).toNat)
     case atStart => exact ⟨0, Nat.zero_le _, rfl, rfl⟩
     case round =>
      obtain ⟨z, hz, rfl, rfl⟩ := hrel
      have HZ : Hid (z ≤ D.length) := hz
      by_cases hzl : z < D.length
      ·have HZL : Hid (z < D.length) := hzl
       obtain ⟨b8, o8, rfl, _, hc8⟩ := RK.out.2 (by omega)
       have x1 : w8.cell? ⟨b8, o8 + z, none⟩ = some (.int .i64 (nx D z : Int)) := hc8 z hzl
       have hin := HDI.out (nx D z) (by rw [nx_of_lt hzl]; exact List.getElem_mem _)
       have hzI : (z : Int) < (D.length : Int) := by omega
       have hz1025 : (z : Int) < 1025 := by have := HDL.out; omega
       clear hc8 hz hzl
       generalize nx D z = y at *
       have hy1 : ¬ (y : Int) < 3 + 64 * (kk : Int) := by omega
       have hy2 : ¬ (y : Int) ≥ 3 + ((kk : Int) + 1) * 64 := by omega
       clear hin
       go_wp2_with fail
       go_roundw
       case rel => exact ⟨z + 1, HZL.out, by go_num, trivial⟩
       case measure => have := HZL.out; simp [intOf]; omega
      ·obtain rfl : z = D.length := by have := HZ.out; omega
       have hzz : ¬ (D.length : Int) < (D.length : Int) := by omega
       clear hz hzl v1 v2 v3 v4 v5
       go_wp2_with fail
       refine (slRead d F s (o : Int) 4096 w8 D8.out HLN.out).mono ?_
       rw [show readS (o : Int) 4096 s = (List.replicate 4096 0, 0) from HRO.out]
       rintro e w9 ⟨A10, m10, c10, rfl, hrd, -, -, hb⟩
       have R10 := qH hrd
       have B9 := qH (B8.out.trans (hb.mono B8.out.size))
       clear hrd hb v6
       obtain ⟨w10, hmk, hm10, hb10⟩ := run_makeS isU8 w9 4096 (by decide)
       have hmk' : (Instr.makeSlice 22 (.int .i64 4096) (.int .i64 4096)).run Tryd.prog w9 = .ok (.slice (some ⟨w9.heap.size, 0, none⟩) 4096 4096) w10 := hmk
       have RZ : Hid (Rd w10 w10.heap.size (some ⟨w9.heap.size, 0, none⟩) 4096 (List.replicate 4096 0)) := rd_cur hm10 (List.take_of_length_le (by simp)) (by simp)
       replace R10 := qH (R10.out.to hb10)
       have B10 := qH (B9.out.trans (hb10.mono B9.out.size))
       clear hmk hm10 hb10
       go_wp2_with fail
       refine (wSame A10 (some ⟨w9.heap.size, 0, none⟩) m10 4096 c10 4096 w10.heap.size _ _ w10 R10.out RZ.out).mono ?_
       rintro e w' ⟨rfl, rfl⟩
       rw [show decide (List.replicate 4096 (0 : UInt8) = List.replicate 4096 0) = true from decide_eq_true rfl]
       go_wp2_with fail
       go_ret
       exact ⟨rfl, B10.out⟩
theorem lifted (os : Os) (started : os.Started) (H : Type) (enc : TypeId × Value → H) :
  ReturnsInHanded {} Tryd.checked os 4 .any (fun w args => (Rows.slotBackSpec.pre enc Tryd.prog Tryd.f4 Rows.slotBackRow.domain false w args ∧ laidMetH Tryd.prog Rows.slotBackRow.laid w) ∧ sizedMet enc Tryd.prog Tryd.f4 (OpenSpec.ofChange Rows.slotBackSpec) false w args)
   (Rows.slotBackSpec.post enc Tryd.prog Tryd.f4 false true false false) := by
 refine returnsInHanded_of_change_and (C := Tryd.checked) (X := fun w _ => laidMetH Tryd.prog Rows.slotBackRow.laid w) (fun _ _ _ hh h => h.of_heap hh) own started (by kernel_rfl) Tryd.func4
  (ChangeSpec.witness_shaped (enc := enc) (C := Tryd.checked) (os := os) (X := fun w _ => laidMetH Tryd.prog Rows.slotBackRow.laid w) false (World.doorLaid Tryd.prog 400 os) #[.int .i64 0, .int .i64 0, .slice none 0 0] 8 rfl (World.shaped_of_RefB (by kernel_rfl) (by kernel_rfl)) (by kernel_rfl) (by kernel_rfl) (by kernel_rfl) (door_met os _)) ?_
 intro W base args ds gs before hval0 hW hcnd hsz0 hL _
 have hval : ∀ (j : Nat) t v, Tryd.f4.params[j]? = some t → args[j]? = some v → Value.okWide Tryd.prog W .any base t v := hval0
 have hsz : (DataW.weightsEach Tryd.prog (Tryd.f4.params.toList ++ Rows.slotBackSpec.plain.varTypes Tryd.prog) (ds ++ gs)).all (· ≤ reachBytes) = true := hsz0
 have hW' := hW
 obtain ⟨p, q, hA0, hV, rfl, hfz, hnd⟩ := hW
 have hA : DataW.TrodAll enc Tryd.prog W 0 (fun _ => true) true Tryd.f4.params.toList args.toList ds p := hA0
 rw [Tryd.params4] at hA hval hsz
 obtain ⟨v0, vs0, d0, ds0, p0, q0, hargs, rfl, rfl, h0, r0⟩ := trodAll_cons hA
 obtain ⟨v1, vs1, d1, ds1, p1, q1, rfl, rfl, rfl, h1, r1⟩ := trodAll_cons r0
 obtain ⟨v2, vs2, d2, ds2, p2, q2, rfl, rfl, rfl, h2, r2⟩ := trodAll_cons r1
 obtain ⟨rfl, rfl, rfl⟩ := trodAll_nil r2
 obtain rfl : args = #[v0, v1, v2] := by cases args; simp_all
 obtain ⟨rfl, rfl⟩ := trodVars_none hV
 have sz2 : ∀ x ∈ d2.weights Tryd.prog 44, x ≤ reachBytes := fun x hx => by simpa using List.all_eq_true.1 hsz _ (DataW.weights_mem_each (j := 2) rfl rfl x hx)
 obtain ⟨a0, rfl, rfl, rfl, w0⟩ := open_int Tryd.underlying3 (hval 0 3 v0 rfl rfl) h0
 obtain ⟨a1, rfl, rfl, rfl, w1⟩ := open_int Tryd.underlying3 (hval 1 3 v1 rfl rfl) h1
 have k2 := h2
 have lt2 : ∀ x ∈ p2, x.block < W.heap.size := by obtain ⟨m, hm⟩ := k2; exact DataW.trod_lt m _ _ _ hm
 obtain ⟨a2, len2, cap2, bss2, rfl, w2⟩ := open_rowsC Tryd.underlying44 Tryd.underlying22 Tryd.underlying5 (by kernel_rfl) (by kernel_rfl) (by kernel_rfl) (by kernel_rfl) (hval 2 44 v2 rfl rfl) h2 sz2
 clear hA0 hval0
 refine (walk a0 a1 a2 len2 cap2 bss2 W (pr_of_laid hL) w0 w1 w2).mono fun e W' ⟨he, bel⟩ => ?_
 subst he
 exact ⟨_, rfl, _, _, _, [], _, [], hW', trodAll_mk1 (shut_bool Tryd.underlying4 _), (trodAll_cons_mk (shut_int Tryd.underlying3 w0) (trodAll_cons_mk (shut_int Tryd.underlying3 w1) (trodAll_cons_mk (Below.trod laidOut (by kernel_rfl) (of_decide_eq_true (by kernel_rfl)) k2 bel lt2) trodAll_mk0))), rfl, bel.frame _, fun h => by cases h⟩
theorem over : Rows.slotBackRow.holds Tryd.pinned (OpenSpec.ofChange Rows.slotBackSpec) :=
 OpenClaim.holds_of_wide 4 Tryd.f4 rfl rfl rfl rfl rfl rfl rfl ⟨rfl, rfl, rfl, rfl, rfl⟩ rfl rfl rfl rfl rfl (by kernel_rfl) Tryd.func4 (by kernel_rfl)
  (of_decide_eq_true (by kernel_rfl)) (by unfold Func.isWrapper; first | (rw [if_pos (by decide +kernel)]; kernel_rfl) | (rw [if_neg (by decide +kernel)]; exact ⟨rfl, rfl⟩))
  (fun os started H enc _ => lifted os started H enc)
theorem wants : ∀ (j : Nat) t, Tryd.f4.params[j]? = some t → Tryd.prog.wantsStandIn t = false := by
 intro j t ht
 rw [Tryd.params4] at ht
 rcases j with _ | j
 ·obtain rfl : 3 = t := by simpa using ht
  kernel_rfl
 rcases j with _ | j
 ·obtain rfl : 3 = t := by simpa using ht
  kernel_rfl
 rcases j with _ | j
 ·obtain rfl : 44 = t := by simpa using ht
  kernel_rfl
 simp at ht
theorem proved : Rows.SlotBackCardSaid :=
 Claim7.holds_tied_plain_at .later [] [.data] true Rows.slotBackCard.stood.harness Rows.slotBackCard.stood.looks over (fun _ h => by cases h) (by kernel_rfl) (fun _ h => by cases h) slotBack_row_tie rfl ⟨rfl, rfl⟩ (by kernel_rfl) rfl
  (fun f fn hf hfn => by
   obtain rfl : f = 4 := Option.some.inj ((show Tryd.prog.funcNamed "citadel/citadellaw15.SlotBack" = some 4 by kernel_rfl).symm.trans hf) |>.symm
   obtain rfl : fn = Tryd.f4 := (Option.some.inj (Tryd.func4.symm.trans hfn)).symm
   exact ⟨by kernel_rfl, wants⟩)
  (by kernel_rfl)
end Go.Proofs.YtopilgedcnbdaaaDoor.slotBack