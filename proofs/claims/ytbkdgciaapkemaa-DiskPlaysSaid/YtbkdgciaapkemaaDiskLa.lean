/- The laws' own helpers (citadellaw06): are acts too many; the bytes of a sector. -/
import Derived.Test.YtbkdgciaapkemaaDiskAct
import Derived.Test.YtbkdgciaapkemaaDiskG
namespace Go.Proofs.Ytbkdgciaapkemaa
open Go.RowKit
set_option linter.unusedVariables false
set_option linter.unusedSimpArgs false

/-- What Great has come to, before act k: each so far is short. -/
def GrRel (l : List DAct) (n i : Value) (wr : World) (w : World) : Prop :=
  ∃ k s : Nat, k ≤ l.length ∧ s ≤ 6000 ∧ k * 20 ≤ s ∧ n = .int .i64 (s : Int) ∧ i = .int .i64 (k : Int) ∧ w = wr ∧ ∀ j, j < k → (l.getD j DAct.zero).b.length ≤ 6000
/-- Few acts, each of few bytes. -/
def Few (l : List DAct) : Prop := l.length ≤ 300 ∧ ∀ j, j < l.length → (l.getD j DAct.zero).b.length ≤ 6000
set_option maxRecDepth 1000000 in
set_option maxHeartbeats 1000000 in
theorem lGreat (A : Option Addr) (n c : Nat) (l : List DAct) (w : World) (h : RdA w w.heap.size A n l) (hn : n ≤ 140737488351232) :
    Calls Try.prog 9 #[.slice A n c] w fun e w' => ∃ g, e = .returned (.bool g) ∧ w = w' ∧ (g = false → Few l) := by
  have H := Lib.hid h
  have HL := Lib.hid h.1
  clear h
  go_enter Try.func9, Try.ntmps9
  go_wp2_with fail
  go_loopw [3, 4] (fun s i wr => GrRel l s i wr w) (fun _ i _ => n - (intOf i).toNat)
  case atStart => exact ⟨0, 0, Nat.zero_le _, Nat.zero_le _, Nat.le_refl _, rfl, rfl, rfl, fun j hj => absurd hj (Nat.not_lt_zero _)⟩
  case round =>
    obtain ⟨k, s, hk, hs, hks, rfl, rfl, rfl, hj⟩ := hrel
    rw [HL.out] at hk
    have HJ := Lib.hid hj
    have HS : Hid (s ≤ 6000) := hs
    have HKS : Hid (k * 20 ≤ s) := hks
    have HK : Hid (k ≤ n) := hk
    clear hj
    by_cases hlt : k < n
    · have HLT : Hid (k < n) := hlt
      obtain ⟨b, o, rfl, hb, hc⟩ := H.out.2 (by omega)
      obtain ⟨A', m, cc, h1, h2⟩ := hc k hlt
      have c2 : w.cell? ⟨b, o + k * 3 + 2, none⟩ = some (.slice A' m cc) := h1 2 _ rfl
      have hm : m = (l.getD k DAct.zero).b.length := h2.rd.1.symm
      have hmc := h2.mc
      have hcc := h2.cc
      have hsI : (s : Int) < 6001 := by omega
      have hmI : (m : Int) < 140737488351233 := by omega
      have hkI : (k : Int) < (n : Int) := by omega
      have hnI : (n : Int) < 140737488351233 := by omega
      have HM := Lib.hid hm
      clear hc h1 h2 hm hs hks hk hmc hcc
      by_cases hbig : (s : Int) + m + 20 > 6000
      · go_wp2_with fail
        go_ret
        exact ⟨true, rfl, rfl, fun h => by cases h⟩
      · have hbig' : ¬ ((s : Int) + m + 20 > 6000) := hbig
        go_wp2_with fail
        go_roundw
        case rel =>
          refine ⟨k + 1, s + m + 20, by rw [HL.out]; exact HLT.out, by omega, by have := HKS.out; omega, by go_num, by go_num, rfl, fun j hj => ?_⟩
          by_cases e : j = k
          · subst e; rw [← HM.out]; omega
          · exact HJ.out j (by omega)
        case measure => have := HLT.out; simp [intOf]; omega
    · obtain rfl : k = n := by have := HK.out; omega
      have hsI : (s : Int) < 6001 := by omega
      have hnI : (k : Int) < 140737488351233 := by omega
      clear hs hks hk
      go_wp2_with fail
      go_ret
      exact ⟨false, rfl, rfl, fun _ => ⟨by rw [HL.out]; have := HS.out; have := HKS.out; omega, fun j hj => HJ.out j (by rw [HL.out] at hj; exact hj)⟩⟩

/-- The bytes that an act writes. -/
def sectorB (b : List UInt8) : List UInt8 := if b.length = 1 then List.replicate 64 (b.getD 0 0) else b
def SecRel (w : World) (x : UInt8) (v i : Value) (wr : World) : Prop :=
  ∃ k : Nat, k ≤ 64 ∧ i = .int .i64 (k : Int) ∧ wr.ownsRow w.heap.size 5 1 v k ((List.replicate k x).map bval) ∧ Below w.heap.size w wr
theorem rep_snoc (k : Nat) (x : UInt8) : List.replicate k x ++ [x] = List.replicate (k + 1) x := by
  rw [List.replicate_succ']
set_option maxRecDepth 1000000 in
set_option maxHeartbeats 1000000 in
theorem lSector (A : Option Addr) (n c : Nat) (b : List UInt8) (w : World) (h : Rd w w.heap.size A n b) (hn : n ≤ 140737488355328) : Calls Try.prog 28 #[.slice A n c] w fun e w' => RetB 5 w (sectorB b) e w' := by
  have R := Lib.hid h
  have HL := Lib.hid h.1
  clear h
  go_enter Try.func28, Try.ntmps28
  by_cases h1 : n = 1
  · subst h1
    obtain ⟨b0, o, rfl, hb, hc⟩ := R.out.2 (by decide)
    have c0 : w.cell? ⟨b0, o, none⟩ = some (.int .u8 ((b.getD 0 0).toNat : Int)) := hc 0 (by decide)
    have HB : Hid (b0 < w.heap.size) := hb
    have C0 := Lib.hid c0
    clear hc hb c0
    obtain ⟨x, hx⟩ : ∃ x, b.getD 0 0 = x := ⟨_, rfl⟩
    have HX := Lib.hid hx
    rw [hx] at C0
    clear hx
    go_wp2_with fail
    go_loopw [3, 4] (fun v i wr => SecRel w x v i wr) (fun _ i _ => 64 - (intOf i).toNat)
    case atStart => exact ⟨0, Nat.zero_le _, rfl, ⟨rfl, .inl ⟨rfl, rfl⟩⟩, Below.refl _ _⟩
    case round =>
      obtain ⟨k, hk, rfl, hown, hb⟩ := hrel
      have O1 := Lib.hid hown
      have B1 := Lib.hid hb
      have HK := Lib.hid hk
      clear hown hb hk
      by_cases hlt : (k : Int) < 64
      · have HLT : Hid (k < 64) := by show _ < _; omega
        have c0 : wr.cell? ⟨b0, o, none⟩ = some (.int .u8 (x.toNat : Int)) := (B1.out.cell HB.out).trans C0.out
        go_wp2_with (at_builtin; refine wpList_push isU8 rfl (.tmp 14) (.tmp 18) rfl (B := w.heap.size) (w := w) (bs := List.replicate k x) (k := k) rfl rfl O1.out B1.out B1.out.size (by have := HLT.out; omega) x rfl ?_; intro v1 w1 hown1 hb1 hs1)
        rw [rep_snoc] at hown1
        have O2 := Lib.hid hown1
        have B2 := Lib.hid hb1
        clear hown1 hb1 hs1
        go_wp2_with fail
        go_roundw
        case rel => exact ⟨k + 1, HLT.out, by go_num, O2.out, B2.out⟩
        case measure => have := HLT.out; simp [intOf]; omega
      · obtain rfl : k = 64 := by have := HK.out; omega
        go_wp2_with fail
        go_ret
        have e : sectorB b = List.replicate 64 x := by unfold sectorB; rw [if_pos HL.out, HX.out]
        rw [e]
        exact RetB.mk O1.out B1.out
  · have hnI : ¬ (n : Int) = 1 := by omega
    have H1 : Hid (¬ n = 1) := h1
    clear h1
    go_wp2_with fail
    refine (refCopy A n c b w R.out hn).mono ?_
    rintro e w1 ⟨A1, n1, c1, rfl, hown, hb⟩
    have O1 := Lib.hid hown
    have B1 := Lib.hid hb
    clear hown hb
    go_wp2_with fail
    go_ret
    have e : sectorB b = b := by unfold sectorB; rw [if_neg (by rw [HL.out]; exact H1.out)]
    rw [e]
    exact RetB.mk O1.out B1.out
def FillRel (w : World) (x : UInt8) (g : Nat) (i : Value) (wr : World) : Prop :=
  ∃ k : Nat, k ≤ 64 ∧ i = .int .i64 (k : Int) ∧ wr.ownsRow w.heap.size 5 1 (.slice (some ⟨g, 0, none⟩) 64 64) 64 ((List.replicate k x ++ List.replicate (64 - k) 0).map bval) ∧ Below w.heap.size w wr ∧ w.heap.size ≤ g
theorem fill_set {k : Nat} (hk : k < 64) (x : UInt8) : (List.replicate k x ++ List.replicate (64 - k) 0).set k x = List.replicate (k + 1) x ++ List.replicate (64 - (k + 1)) 0 := by
  rw [List.set_append_right _ _ (by simp), List.length_replicate, Nat.sub_self, show 64 - k = (64 - (k + 1)) + 1 from by omega, List.replicate_succ, List.set_cons_zero, ← rep_snoc, List.append_assoc]
  rfl
set_option maxRecDepth 1000000 in
set_option maxHeartbeats 1000000 in
theorem lFill (x : UInt8) (w : World) : Calls Try.prog 29 #[.int .u8 (x.toNat : Int)] w fun e w' => RetB 5 w (List.replicate 64 x) e w' := by
  go_enter Try.func29, Try.ntmps29
  obtain ⟨z, hz⟩ : ∃ z : Int, (x.toNat : Int) = z := ⟨_, rfl⟩
  have HZ := Lib.hid hz
  rw [hz]
  clear hz
  go_wp2_with (refine wpList_makeB isU8 rfl _ _ rfl (w := w) (B := w.heap.size) 64 rfl rfl rfl rfl (by decide) (Below.refl _ _) (Nat.le_refl _) ?_; intro w1 hown1 hb1 hs1)
  have O0 := Lib.hid hown1
  have B0 := Lib.hid hb1
  clear hown1 hb1 hs1
  go_wp2_with fail
  go_loopw [4] (fun i wr => FillRel w x w.heap.size i wr) (fun i _ => 64 - (intOf i).toNat)
  case atStart => exact ⟨0, Nat.zero_le _, rfl, O0.out, B0.out, Nat.le_refl _⟩
  case round =>
    obtain ⟨k, hk, rfl, hown, hb, hg⟩ := hrel
    have O1 := Lib.hid hown
    have B1 := Lib.hid hb
    have HK := Lib.hid hk
    by_cases hlt : (k : Int) < 64
    · have HLT : Hid (k < 64) := by show _ < _; omega
      obtain ⟨x0, z0⟩ := own_cell hown (j := k) (by omega)
      have hst := own_set (j := k) hown hb x HZ.out.symm hg
      rw [fill_set HLT.out] at hst
      have HST := Lib.hid hst
      clear hown hb hk hst hg
      go_wp2_with fail
      go_roundw
      case rel => exact ⟨k + 1, HLT.out, by go_num, HST.out.1, HST.out.2, Nat.le_refl _⟩
      case measure => have := HLT.out; simp [intOf]; omega
    · obtain rfl : k = 64 := by have := HK.out; omega
      clear hown hb hk hg
      go_wp2_with fail
      go_ret
      have h1 := O1.out
      rw [Nat.sub_self, List.replicate_zero, List.append_nil] at h1
      exact RetB.mk h1 B1.out
end Go.Proofs.Ytbkdgciaapkemaa
