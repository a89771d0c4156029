/- The laws' own helpers of layer 10, part three: spoil, stays. -/
import Derived.Test.YtkaobafgecoomaaChN
namespace Go.Proofs.Ytkaobafgecoomaa
open Go.RowKit
set_option linter.unusedVariables false
set_option linter.unusedSimpArgs false

/-- Bytes at B or behind it were written over; what was a slice of bytes of one's own there is still one, as long. -/
def Dirty (B : Nat) (w w' : World) : Prop := Keep (fun b => B ≤ b) w w' ∧ ∀ A n bs, OwR w B A n bs → ∃ bs' : List UInt8, bs'.length = bs.length ∧ OwR w' B A n bs'
theorem Dirty.refl (B : Nat) (w : World) : Dirty B w w := ⟨Keep.refl _ _, fun _ _ bs h => ⟨bs, rfl, h⟩⟩
theorem Dirty.trans {B : Nat} {a b c : World} (h : Dirty B a b) (h' : Dirty B b c) : Dirty B a c :=
  ⟨h.1.trans h'.1, fun A n bs ho => by
    obtain ⟨b1, e1, h1⟩ := h.2 A n bs ho
    obtain ⟨b2, e2, h2⟩ := h'.2 A n b1 h1
    exact ⟨b2, e2.trans e1, h2⟩⟩
theorem Dirty.of_below {B : Nat} {w w' : World} (h : Below w.heap.size w w') : Dirty B w w' := ⟨Keep.of_below h, fun _ _ bs ho => ⟨bs, rfl, ho.to h⟩⟩
theorem Dirty.set {B : Nat} {w w' : World} (h : Dirty B w w') (p : Addr) (y : UInt8) (hp : B ≤ p.block) : Dirty B w (w'.setCell p (.int .u8 (y.toNat : Int))) :=
  h.trans ⟨(Keep.refl _ _).setCell p _ hp, fun A n bs ho => ho.dirty p y⟩
set_option maxRecDepth 1000000 in
set_option maxHeartbeats 1000000 in
theorem lSpoil (a b d e s : Int) (A : Option Addr) (n c B : Nat) (xs : List Row) (w : World) (hO : OwS w B A n xs) (hB : B ≤ w.heap.size) (hn : n ≤ 1000) (hl : ∀ j, j < n → (rowAt xs j).2 ≤ 1000) :
    Calls Try.prog 14 #[.agg #[.int .i64 a, .int .i64 b, .int .i64 d, .int .i64 e, .int .i64 s, .slice A n c]] w fun x w' => x = .returned (.tuple #[]) ∧ Dirty B w w' := by
  have O := Lib.hid hO
  have HB := Lib.hid hB
  have HN := Lib.hid hn
  have HL := Lib.hid hl
  have hb := (Below.refl w.heap.size w).alloc (Nat.le_refl _) (.cells #[.int .i64 a, .int .i64 b, .int .i64 d, .int .i64 e, .int .i64 s, .slice A n c] 26)
  have Q := Lib.hid (Qx.new w a b d e s (.slice A n c) 26)
  have DD := Lib.hid (Dirty.of_below (B := B) hb)
  have O1 := Lib.hid (hO.to hb)
  have BB := Lib.hid hb
  clear hO hB hn hl hb
  go_enter Try.func14, Try.ntmps14
  go_wp2_with fail
  generalize w.alloc (.cells #[.int .i64 a, .int .i64 b, .int .i64 d, .int .i64 e, .int .i64 s, .slice A n c] 26) = w1 at *
  go_loopw [2, 3] (fun s2 _ wr => ∃ (k : Nat) (xs' : List Row), k ≤ n ∧ s2 = .int .i64 (k : Int) ∧ OwS wr B A n xs' ∧ (∀ j, j < n → (rowAt xs' j).2 = (rowAt xs j).2) ∧ (∀ j, j < w.heap.size → (∀ b o, A = some ⟨b, o, none⟩ → j = b → wr.heap[j]? = w.heap[j]?)) ∧ Dirty B w wr ∧ Qx wr w.heap.size ⟨a, b, d, e, s⟩ (.slice A n c)) (fun s2 _ _ => n - (intOf s2).toNat)
  case atStart => exact ⟨0, xs, Nat.zero_le _, rfl, O1.out, fun _ _ => rfl, fun j hj _ _ _ _ => BB.out.block j hj, DD.out, Q.out⟩
  case round =>
    obtain ⟨k, xs', hk, rfl, ho, hx, hbl, hd, hq⟩ := hrel
    clear O1 DD Q BB
    have O1 := Lib.hid ho
    have HX := Lib.hid hx
    have HBL := Lib.hid hbl
    have D := Lib.hid hd
    have Q := Lib.hid hq
    clear ho hx hbl hd hq
    obtain ⟨x0, x1, x2, x3, x4, x5⟩ := Q.out.six
    by_cases hlt : k < n
    · have hltI : (k : Int) < (n : Int) := by omega
      have HLT : Hid (k < n) := hlt
      have hwk : IntKind.i64.wrap ((k : Int) + 1) = (k : Int) + 1 := by have := HN.out; rw [IntKind.wrap_i64]; omega
      obtain ⟨bb, o, A0, c0, rfl, hcell0, hrow0, hne0⟩ := O.out.at_ hlt
      obtain ⟨bb', o', A1, c1, e', hcell, hrow, hne⟩ := O1.out.at_ hlt
      injection e' with e'
      injection e' with e1 e2
      subst e1; subst e2
      have hcs : wr.cell? ⟨bb, o + k, none⟩ = w.cell? ⟨bb, o + k, none⟩ := World.cell?_of_block (HBL.out bb (cell_block hcell0) bb o rfl rfl)
      rw [hcs, hcell0] at hcell
      injection hcell with hcell
      injection hcell with e1 e2 e3
      subst e1; subst e3
      obtain ⟨m, hm⟩ : ∃ m, (rowAt xs k).2 = m := ⟨_, rfl⟩
      have HM : Hid (m ≤ 1000) := by show _ ≤ _; rw [← hm]; exact HL.out k hlt
      have HMS : Hid (m ≤ (rowAt xs k).1.length ∧ (rowAt xs' k).2 = m) := ⟨by rw [← hm]; exact hrow0.2.1, by rw [← hm]; exact HX.out k hlt⟩
      rw [hm] at hcell0
      have HBLK : Hid (0 < m → ∀ b' o', A0 = some ⟨b', o', none⟩ → b' ≠ bb ∧ b' < w.heap.size ∧ B ≤ b') := by
        intro h0 b' o' e0
        have h1 : 0 < (rowAt xs k).1.length := by have := HMS.out.1; omega
        have h2 := hrow0.1.blk h1 e0
        exact ⟨hne0 h1 b' o' e0, h2.2, h2.1⟩
      have HCL := Lib.hid (hcs.trans hcell0)
      have y5 := HCL.out
      have HC0 := Lib.hid hcell0
      clear hk hlt hcell0 hrow0 hne0 hrow hne hcs e2 hm
      go_wp2_with fail
      clear y5 x0 x1 x2 x3 x4 x5
      go_loopw [3] (fun s3 w3 => ∃ (j : Nat) (xs2 : List Row), j ≤ m ∧ s3 = .int .i64 (j : Int) ∧ OwS w3 B (some ⟨bb, o, none⟩) n xs2 ∧ (∀ j, j < n → (rowAt xs2 j).2 = (rowAt xs j).2) ∧ (∀ j, j < w.heap.size → (∀ b o', some (⟨bb, o, none⟩ : Addr) = some ⟨b, o', none⟩ → j = b → w3.heap[j]? = w.heap[j]?)) ∧ Dirty B w w3 ∧ Qx w3 w.heap.size ⟨a, b, d, e, s⟩ (.slice (some ⟨bb, o, none⟩) n c)) (fun s3 _ => m - (intOf s3).toNat)
      case atStart => exact ⟨0, xs', Nat.zero_le _, rfl, O1.out, HX.out, HBL.out, D.out, Q.out⟩
      case round =>
        obtain ⟨j, xs2, hj, rfl, ho, hx, hbl, hd, hq⟩ := hrel
        clear O1 D Q HX HBL
        have O1 := Lib.hid ho
        have HX := Lib.hid hx
        have HBL := Lib.hid hbl
        have D := Lib.hid hd
        have Q := Lib.hid hq
        clear ho hx hbl hd hq
        obtain ⟨x0, x1, x2, x3, x4, x5⟩ := Q.out.six
        have ybl : bb < w.heap.size := cell_block HC0.out
        have y5 : wr.cell? ⟨bb, o + k, none⟩ = some (.slice A0 m c0) := (World.cell?_of_block (HBL.out bb ybl bb o rfl rfl)).trans HC0.out
        clear ybl
        by_cases hjt : j < m
        · have hjI : (j : Int) < (m : Int) := by omega
          have HJT : Hid (j < m) := hjt
          have hwj : IntKind.i64.wrap ((j : Int) + 1) = (j : Int) + 1 := by have := HM.out; rw [IntKind.wrap_i64]; omega
          obtain ⟨b1, o1, A1, c1, e', hcell, hrow, hne⟩ := O1.out.at_ HLT.out
          injection e' with e'
          injection e' with e1 e2
          subst e1; subst e2
          rw [y5] at hcell
          injection hcell with hcell
          injection hcell with e1 e2 e3
          subst e1; subst e3
          obtain ⟨b2, o2, rfl, hB2, z1, z2⟩ := hrow.1.cell (j := j) (by have := hrow.2.1; omega)
          have HB2 := Lib.hid (HBLK.out (Nat.lt_of_le_of_lt (Nat.zero_le _) hjt) b2 o2 rfl)
          generalize hz : nth (rowAt xs2 k).1 j = z at *
          have hz2 : z < 256 := by rw [← hz]; exact nth_lt _ _
          clear hz hrow hne e2 hj hjt
          obtain ⟨y, hy⟩ : ∃ y : UInt8, bits .xor .u8 (z : Int) 255 = (y.toNat : Int) := ⟨UInt8.ofNat z ^^^ 255, by
            have h := xor_u8 (UInt8.ofNat z) 255
            have e : (UInt8.ofNat z).toNat = z := by rw [UInt8.toNat_ofNat']; omega
            rw [e] at h
            exact h⟩
          have HY := Lib.hid hy
          clear hy hz2
          go_wp2_with fail
          rw [HY.out]
          obtain ⟨xs3, e3, o3⟩ := O1.out.dirty ⟨b2, o2 + j, none⟩ (fun e => HB2.out.1 e) y
          have D3 := D.out.set ⟨b2, o2 + j, none⟩ y HB2.out.2.2
          have Q3 := Q.out.kept ((Keep.refl (fun b => b = b2) wr).setCell ⟨b2, o2 + j, none⟩ (.int .u8 (y.toNat : Int)) rfl) (fun h => by have := HB2.out.2.1; omega)
          have H3 := fun (i : Nat) (hi : i ≠ b2) => Below.heap_setCell wr ⟨b2, o2 + j, none⟩ (.int .u8 (y.toNat : Int)) i hi
          generalize wr.setCell ⟨b2, o2 + j, none⟩ (.int .u8 (y.toNat : Int)) = w4 at *
          go_roundw
          case rel => exact ⟨j + 1, xs3, HJT.out, by go_num, o3, fun i hi => (e3 i hi).trans (HX.out i hi), fun i hi b o' e0 e1 => (H3 i (fun h => by
            injection e0 with e0
            injection e0 with e0 _
            exact HB2.out.1 (by rw [← h, e1, ← e0]))).trans (HBL.out i hi b o' e0 e1), D3, Q3⟩
          case measure => have := HJT.out; simp [intOf]; omega
        · obtain rfl : j = m := by omega
          have hjI : ¬ (j : Int) < (j : Int) := by omega
          clear hj hjt
          go_wp2_with fail
          go_roundw
          case rel => exact ⟨k + 1, xs2, HLT.out, by go_num, O1.out, HX.out, HBL.out, D.out, Q.out⟩
          case measure => have := HLT.out; simp [intOf]; omega
    · obtain rfl : k = n := by omega
      have hltI : ¬ (k : Int) < (k : Int) := by omega
      clear hk hlt
      go_wp2_with fail
      exact bodyPost_end (results_none rfl _ _ _) rfl ⟨rfl, D.out⟩
end Go.Proofs.Ytkaobafgecoomaa
