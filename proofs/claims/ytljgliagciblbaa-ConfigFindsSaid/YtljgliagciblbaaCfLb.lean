/- The laws' own helpers of layer 11: spoil. -/
import Derived.Test.YtljgliagciblbaaCfLa
namespace Go.Proofs.Ytljgliagciblbaa
open Go.RowKit
set_option linter.unusedVariables false
set_option linter.unusedSimpArgs false

/-- While a configuration is written over. -/
structure Spo (B : Nat) (w w1 wr : World) : Prop where
  kin : Kin w1 wr
  bel : Below B w wr
theorem Spo.set {B : Nat} {w w1 wr : World} (h : Spo B w w1 wr) {a : Addr} {v v' : Value} (hc : wr.cell? a = some v) (hk : kinV v v') (hB : B ≤ a.block) : Spo B w w1 (wr.setCell a v') := ⟨h.kin.set hc hk, h.bel.setCell hB v'⟩
theorem Spo.box {B : Nat} {w w1 wr : World} {g : Nat} {v : CV} (h : Spo B w w1 wr) (hx : Cfx w1 g v) : wr.cell? ⟨g, 0, none⟩ = some (.slice v.aw v.nw v.kw) ∧ wr.cell? ⟨g, 1, none⟩ = some (.slice v.ap v.np v.kp) ∧ wr.cell? ⟨g, 2, none⟩ = some (.slice v.ac v.nc v.kc) :=
  ⟨h.kin.slice hx.c0, h.kin.slice hx.c1, h.kin.slice hx.c2⟩
theorem nth_u8 (bs : List UInt8) (j : Nat) : ∃ x : UInt8, nth bs j = x.toNat := by
  refine ⟨UInt8.ofNat (nth bs j), ?_⟩
  have := nth_lt bs j
  rw [UInt8.toNat_ofNat']
  omega
set_option maxRecDepth 1000000 in
set_option maxHeartbeats 1000000 in
theorem lSpoil (v : CV) (B : Nat) (w : World) (h : Sp w B v) (hB : B ≤ w.heap.size) (hw : v.nw ≤ 1000) (hp : v.np ≤ 1000) (hc : v.nc ≤ 1000) :
    Calls Try.prog 19 #[.agg #[.slice v.aw v.nw v.kw, .slice v.ap v.np v.kp, .slice v.ac v.nc v.kc]] w fun x w' => x = .returned (.tuple #[]) ∧ Below B w w' := by
  have hb := (Below.refl w.heap.size w).alloc (Nat.le_refl _) (.cells #[.slice v.aw v.nw v.kw, .slice v.ap v.np v.kp, .slice v.ac v.nc v.kc] 26)
  have X := Lib.hid (Cfx.new w v 26)
  have S := Lib.hid (h.to hb)
  have H0 : Hid (Spo B w (w.alloc (.cells #[.slice v.aw v.nw v.kw, .slice v.ap v.np v.kp, .slice v.ac v.nc v.kc] 26)) (w.alloc (.cells #[.slice v.aw v.nw v.kw, .slice v.ap v.np v.kp, .slice v.ac v.nc v.kc] 26))) := ⟨Kin.refl _, (Below.refl B w).alloc hB _⟩
  have HNW := Lib.hid hw
  have HNP := Lib.hid hp
  have HNC := Lib.hid hc
  clear h hb hw hp hc hB
  go_enter Try.func19, Try.ntmps19
  go_wp2_with fail
  generalize w.alloc (.cells #[.slice v.aw v.nw v.kw, .slice v.ap v.np v.kp, .slice v.ac v.nc v.kc] 26) = w1 at *
  go_loopw [2] (fun s2 wr => ∃ k : Nat, k ≤ v.nw ∧ s2 = .int .i64 (k : Int) ∧ Spo B w w1 wr) (fun s2 _ => v.nw - (intOf s2).toNat)
  case atStart => exact ⟨0, Nat.zero_le _, rfl, H0.out⟩
  case round =>
    clear H0
    obtain ⟨k, hk, rfl, hs⟩ := hrel
    have H := Lib.hid hs
    have HK := Lib.hid hk
    obtain ⟨x0, _, _⟩ := hs.box X.out
    clear hs hk
    by_cases hlt : k < v.nw
    · have hltI : (k : Int) < (v.nw : Int) := by omega
      have HLT : Hid (k < v.nw) := hlt
      have hwk : IntKind.i64.wrap ((k : Int) + 1) = (k : Int) + 1 := by have := HNW.out; rw [IntKind.wrap_i64]; omega
      obtain ⟨bb, o, hA, hbB, hcell⟩ := S.out.ww (by omega)
      obtain ⟨⟨z, hz⟩, hf⟩ := hcell k hlt
      obtain ⟨y, hy⟩ := H.out.kin.int hz
      have hfr : wr.frozen? ⟨bb, o + k * 2, none⟩ = false := (H.out.kin.fr _).trans hf
      have HBB := Lib.hid hbB
      have HY := Lib.hid hy
      rw [hA] at x0
      clear hcell hz hf hbB hlt
      go_wp2_with fail
      have H2 := Lib.hid (H.out.set (v' := .int .i64 (-9)) HY.out (.inr (.inl ⟨_, _, rfl, rfl⟩)) HBB.out)
      go_roundw
      case rel => exact ⟨k + 1, HLT.out, by go_num, H2.out⟩
      case measure => simp [intOf]; omega
    · obtain rfl : k = v.nw := by have := HK.out; omega
      clear hlt
      go_wp2_with fail
      clear x0
      go_loopw [3, 4] (fun s3 s4 wr => ∃ k : Nat, k ≤ v.np ∧ s3 = .int .i64 (k : Int) ∧ Spo B w w1 wr) (fun s3 _ _ => v.np - (intOf s3).toNat)
      case atStart => exact ⟨0, Nat.zero_le _, rfl, H.out⟩
      case round =>
        clear H HK
        obtain ⟨k, hk, rfl, hs⟩ := hrel
        have H := Lib.hid hs
        have HK := Lib.hid hk
        obtain ⟨_, x1, _⟩ := hs.box X.out
        clear hs hk
        by_cases hlt : k < v.np
        · have hltI : (k : Int) < (v.np : Int) := by omega
          have HLT : Hid (k < v.np) := hlt
          have hwk : IntKind.i64.wrap ((k : Int) + 1) = (k : Int) + 1 := by have := HNP.out; rw [IntKind.wrap_i64]; omega
          obtain ⟨bb, o, hA, hbB, hcell⟩ := S.out.pp (by omega)
          obtain ⟨⟨⟨z, hz⟩, hf⟩, A', m, c', bs, h4, ho, hmc, _, hm7⟩ := hcell k hlt
          have HBB := Lib.hid hbB
          have HZ := Lib.hid hz
          have HF := Lib.hid hf
          have H4 := Lib.hid h4
          have HO := Lib.hid ho
          have HM := Lib.hid hm7
          have HA := Lib.hid hA
          clear hcell hz hf hbB hlt h4 ho hmc hm7 hA
          go_wp2_with fail
          clear x1
          obtain ⟨wo, hwo⟩ : ∃ x, x = wr := ⟨_, rfl⟩
          subst hwo
          go_loopw [4] (fun s4 wr => ∃ j : Nat, j ≤ m ∧ s4 = .int .i64 (j : Int) ∧ Spo B w w1 wr) (fun s4 _ => m - (intOf s4).toNat)
          case atStart => exact ⟨0, Nat.zero_le _, rfl, H.out⟩
          case round =>
            clear H
            obtain ⟨j, hj, rfl, hs⟩ := hrel
            have H := Lib.hid hs
            have HJ := Lib.hid hj
            obtain ⟨_, x1, _⟩ := hs.box X.out
            have y4 := H.out.kin.slice H4.out
            rw [HA.out] at x1
            clear hs hj
            by_cases hjt : j < m
            · have hjI : (j : Int) < (m : Int) := by omega
              have HJT : Hid (j < m) := hjt
              have hwj : IntKind.i64.wrap ((j : Int) + 1) = (j : Int) + 1 := by have := HM.out; rw [IntKind.wrap_i64]; omega
              obtain ⟨b2, o2, hA2, hB2, hc2, hf2⟩ := HO.out.cell hjt
              obtain ⟨u, hu⟩ := nth_u8 bs j
              rw [hu] at hc2
              obtain ⟨y, hy⟩ := H.out.kin.byte hc2
              have hfr : wr.frozen? ⟨b2, o2 + j, none⟩ = false := (H.out.kin.fr _).trans hf2
              obtain ⟨y', hy'⟩ : ∃ y' : UInt8, bits .xor .u8 (y.toNat : Int) 255 = (y'.toNat : Int) := ⟨y ^^^ 255, xor_u8 y 255⟩
              have HB2 := Lib.hid hB2
              have HY := Lib.hid hy
              have HY' := Lib.hid hy'
              rw [hA2] at y4
              clear hu hc2 hf2 hB2 hy' hjt
              go_wp2_with fail
              rw [HY'.out]
              have H2 := Lib.hid (H.out.set (v' := .int .u8 (y'.toNat : Int)) HY.out (.inr (.inr ⟨y, y', rfl, rfl⟩)) HB2.out)
              go_roundw
              case rel => exact ⟨j + 1, HJT.out, by go_num, H2.out⟩
              case measure => simp [intOf]; omega
            · obtain rfl : j = m := by have := HJ.out; omega
              clear hjt
              obtain ⟨y, hy⟩ := H.out.kin.int HZ.out
              have hfr : wr.frozen? ⟨bb, o + k * 5, none⟩ = false := (H.out.kin.fr _).trans HF.out
              have HY := Lib.hid hy
              go_wp2_with fail
              have H2 := Lib.hid (H.out.set (v' := .int .i64 (-9)) HY.out (.inr (.inl ⟨_, _, rfl, rfl⟩)) HBB.out)
              go_roundw
              case rel => exact ⟨k + 1, HLT.out, by go_num, H2.out⟩
              case measure => simp [intOf]; omega
        · obtain rfl : k = v.np := by have := HK.out; omega
          clear hlt
          go_wp2_with fail
          clear x1
          go_loopw [5] (fun s5 wr => ∃ k : Nat, k ≤ v.nc ∧ s5 = .int .i64 (k : Int) ∧ Spo B w w1 wr) (fun s5 _ => v.nc - (intOf s5).toNat)
          case atStart => exact ⟨0, Nat.zero_le _, rfl, H.out⟩
          case round =>
            clear H HK
            obtain ⟨k, hk, rfl, hs⟩ := hrel
            have H := Lib.hid hs
            have HK := Lib.hid hk
            obtain ⟨_, _, x2⟩ := hs.box X.out
            clear hs hk
            by_cases hlt : k < v.nc
            · have hltI : (k : Int) < (v.nc : Int) := by omega
              have HLT : Hid (k < v.nc) := hlt
              have hwk : IntKind.i64.wrap ((k : Int) + 1) = (k : Int) + 1 := by have := HNC.out; rw [IntKind.wrap_i64]; omega
              obtain ⟨bb, o, hA, hbB, hcell⟩ := S.out.cc (by omega)
              obtain ⟨⟨z, hz⟩, hf⟩ := hcell k hlt
              obtain ⟨y, hy⟩ := H.out.kin.int hz
              have hfr : wr.frozen? ⟨bb, o + k * 5, none⟩ = false := (H.out.kin.fr _).trans hf
              have HBB := Lib.hid hbB
              have HY := Lib.hid hy
              rw [hA] at x2
              clear hcell hz hf hbB hlt
              go_wp2_with fail
              have H2 := Lib.hid (H.out.set (v' := .int .i64 (-9)) HY.out (.inr (.inl ⟨_, _, rfl, rfl⟩)) HBB.out)
              go_roundw
              case rel => exact ⟨k + 1, HLT.out, by go_num, H2.out⟩
              case measure => simp [intOf]; omega
            · obtain rfl : k = v.nc := by have := HK.out; omega
              clear hlt
              go_wp2_with fail
              exact bodyPost_end (results_none rfl _ _ _) rfl ⟨rfl, H.out.bel⟩
end Go.Proofs.Ytljgliagciblbaa
