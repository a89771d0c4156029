/- The laws' own helpers of layer 11: Copied. -/
import Derived.Test.YtecedmjhhaabgaaCfLq
import Derived.Test.YtecedmjhhaabgaaCfWq
import Derived.Deep.RegionHeld
import Derived.Deep.RegionLaw
namespace Go.Proofs.Ytecedmjhhaabgaa
open Go.RowKit
set_option linter.unusedVariables false
set_option linter.unusedSimpArgs false

theorem cpb_ne {w : World} {T z g : Nat} {U V : TypeId} {v : Value} {n : Nat} {xs cs : List Value} (h : w.ownsRow T U z v n xs) (hb : Bx w g V cs) (hU : U ≠ V) : ¬ v.ownBlock = some g := fun e => by
  rcases h.2 with ⟨rfl, _⟩ | ⟨g', cap, cur, rfl, _, hh, _⟩
  · cases e
  simp only [Value.ownBlock, Option.some.injEq] at e
  subst e
  have hb' : w.heap[g']? = _ := hb
  rw [hh] at hb'
  injection hb' with hb'
  injection hb' with _ hb'
  exact hU hb'
/-- While Copied copies partitions, behind wx: the box at g3, the row of partitions. -/
structure CSt (w2 wx wr : World) (g3 : Nat) (vw vp vc : Value) (qs : List QP) : Prop where
  box : Bx wr g3 26 [vw, vp, vc]
  op : OwnP wr wx.heap.size vp qs
  kp : Keep (fun k => k = g3 ∨ wx.heap.size ≤ k) wx wr
  bel : Below w2.heap.size w2 wr
  gx : g3 < wx.heap.size
  g2 : w2.heap.size ≤ g3
theorem CSt.step {w2 wx wr w' : World} {g3 : Nat} {vw vp vc : Value} {qs : List QP} (h : CSt w2 wx wr g3 vw vp vc qs) (hb : Below wr.heap.size wr w') : CSt w2 wx w' g3 vw vp vc qs :=
  ⟨h.box.to hb, h.op.to (R := fun _ => False) (Keep.of_below hb) (fun _ hh => hh.elim), h.kp.trans (Keep.of_below hb), h.bel.trans (hb.mono h.bel.size), h.gx, h.g2⟩
theorem CSt.push {w2 wx wr w' : World} {g3 : Nat} {vw vp vc vp' : Value} {qs : List QP} {q : QP} (h : CSt w2 wx wr g3 vw vp vc qs) (hq : Img wr wx.heap.size q) (hqo : ∀ b, vp.ownBlock = some b → Off q.A q.m (· = b)) (hown : w'.ownsRow wx.heap.size 43 5 vp' (qs.length + 1) (partsV qs ++ q.cells))
    (hk : Keep (fun k => vp.ownBlock = some k) wr w') (hv : ∀ b, vp'.ownBlock = some b → vp.ownBlock = some b ∨ wr.heap.size ≤ b) : CSt w2 wx (w'.setCell ⟨g3, 1, none⟩ vp') g3 vw vp' vc (qs ++ [q]) := by
  have hT : ∀ k, vp.ownBlock = some k → wx.heap.size ≤ k := fun k hk => (h.op.row.lt k hk).1
  have hgx := h.gx
  have hs : Keep (· = g3) w' (w'.setCell ⟨g3, 1, none⟩ vp') := (Keep.refl _ _).setCell _ _ rfl
  have hk2 : Keep (fun k => k = g3 ∨ wx.heap.size ≤ k) wr (w'.setCell ⟨g3, 1, none⟩ vp') := (hk.more fun k hk => .inr (hT k hk)).setCell _ _ (.inl rfl)
  refine ⟨(h.box.kept hk (fun hh => by have := hT _ hh; omega)).set 1 vp', (h.op.push hq hqo hown hk hv).to hs (fun k hk => .inl (by have : k = g3 := hk; omega)), h.kp.trans hk2, hk2.below h.bel h.bel.size (fun k hh => ?_), h.gx, h.g2⟩
  have := h.g2
  rcases hh with hh | hh <;> omega
theorem RdG.newsTo {w w' : World} {n : Nat} {A : Option Addr} {l : List Reg} (h : RdG w w.heap.size A n l) (hb : Below w.heap.size w w') : (winsV l).length = n * 2 ∧ (0 < n → ∃ ad, A = some ad ∧ ∀ j u, (winsV l)[j]? = some u → w'.cell? (ad.add j) = some u) := (h.to hb).news
theorem RdC.newsTo {w w' : World} {n : Nat} {A : Option Addr} {l : List Ch} (h : RdC w w.heap.size A n l) (hb : Below w.heap.size w w') : (chsV l).length = n * 5 ∧ (0 < n → ∃ ad, A = some ad ∧ ∀ j u, (chsV l)[j]? = some u → w'.cell? (ad.add j) = some u) := (h.to hb).news

set_option maxRecDepth 1000000 in
set_option maxHeartbeats 8000000 in
theorem lCopiedX (v : CV) (c : Cf) (w : World) (h : RdCf w w.heap.size v c) (hw : v.nw ≤ 1000) (hp : v.np ≤ 1000) (hc : v.nc ≤ 1000) (hi : ∀ p ∈ c.ps, p.img.length ≤ 100000) :
    Calls Try.prog 9 #[.agg #[.slice v.aw v.nw v.kw, .slice v.ap v.np v.kp, .slice v.ac v.nc v.kc]] w fun x w' => ∃ (v' : CV) (qs : List QP), x = .returned v'.val ∧ OwX w' w.heap.size v' c qs ∧ Below w.heap.size w w' := by
  obtain ⟨w2, hw2, hb2, hx, hz, hs2⟩ := two_boxes v w
  have R := Lib.hid (h.to hb2)
  have X := Lib.hid hx
  have Z := Lib.hid hz
  have BW := Lib.hid hb2
  have S2 := Lib.hid hs2
  have HW2 := Lib.hid hw2
  have HNW := Lib.hid hw
  have HNP := Lib.hid hp
  have HNC := Lib.hid hc
  have HIM := Lib.hid hi
  clear hi h hw hp hc hw2 hb2 hx hz hs2
  go_enter Try.func9, Try.ntmps9
  go_upto_region 1 with (fail)
  rw [show (w.alloc (.cells #[.slice v.aw v.nw v.kw, .slice v.ap v.np v.kp, .slice v.ac v.nc v.kc] 26)).alloc (.cells #[.slice none 0 0, .slice none 0 0, .slice none 0 0] 26) = w2 from HW2.out]
  clear HW2
  rename_i K9 hK9
  have REST : Hid (∀ (g3 g0 g4 T c3 c7 : Nat) (A3 A7 : Option Addr) (wx : World), w2.heap.size ≤ T → T ≤ g3 → Bx wx g3 26 [.slice A3 v.nw c3, .slice none 0 0, .slice A7 v.nc c7] → wx.ownsRow T 59 2 (.slice A3 v.nw c3) v.nw (winsV c.ws) → wx.ownsRow T 47 5 (.slice A7 v.nc c7) v.nc (chsV c.cs) → Below w2.heap.size w2 wx →
      K9 { tmps := #[.agg #[.slice v.aw v.nw v.kw, .slice v.ap v.np v.kp, .slice v.ac v.nc v.kc], .pointer (some ⟨w.heap.size, 0, none⟩), .pointer (some ⟨w.heap.size + 1, 0, none⟩), .pointer (some ⟨g3, 0, none⟩), undef, undef, .slice (some ⟨g0, 0, none⟩) 0 0, .pointer (some ⟨w.heap.size, 0, none⟩), .slice v.aw v.nw v.kw, .slice A3 v.nw c3, .slice (some ⟨g4, 0, none⟩) 0 0, .pointer (some ⟨w.heap.size, 2, none⟩), .slice v.ac v.nc v.kc, .slice A7 v.nc c7, .agg #[.slice A3 v.nw c3, .slice none 0 0, .slice A7 v.nc c7], undef, undef, undef, undef, undef, undef, undef, undef, undef, undef, undef, undef, undef, undef, undef, undef, undef, undef, undef, undef, undef, undef, undef, undef], defers := [] } wx) := by
    intro g3 g0 g4 T c3 c7 A3 A7 wx hT hg3 hbx hO3 hO7 hbel
    have H0 : Hid (CSt w2 wx wx g3 (.slice A3 v.nw c3) (.slice none 0 0) (.slice A7 v.nc c7) []) := ⟨hbx, OwnP.nil _ _, Keep.refl _ _, hbel, hbx.lt, Nat.le_trans hT hg3⟩
    have O3 := Lib.hid hO3
    have O7 := Lib.hid hO7
    have HT := Lib.hid hT
    have NB3 := Lib.hid (cpb_ne hO3 hbx (by decide))
    have NB7 := Lib.hid (cpb_ne hO7 hbx (by decide))
    clear hT hg3 hbx hO3 hO7 hbel
    apply hK9
    clear hK9
    go_wp2_with fail
    go_loopw [4, 5] (fun s4 s5 wr => ∃ k : Nat, k ≤ v.np ∧ s4 = .int .i64 (k : Int) ∧ ∃ vp qs, CSt w2 wx wr g3 (.slice A3 v.nw c3) vp (.slice A7 v.nc c7) qs ∧ qs.map QP.p = c.ps.take k) (fun s4 _ _ => v.np - (intOf s4).toNat)
    case atStart => exact ⟨0, Nat.zero_le _, rfl, _, [], H0.out, rfl⟩
    case round =>
      clear H0
      obtain ⟨k, hk, rfl, vp, qs, hc, hq⟩ := hrel
      obtain ⟨Ap, cp, rfl⟩ := own_slV hc.op.row
      have H := Lib.hid hc
      have HQ := Lib.hid hq
      have HK := Lib.hid hk
      have x1 := (X.out.to H.out.bel).at (j := 1) rfl
      clear hc hq hk
      by_cases hlt : k < v.np
      · have hltI : (k : Int) < (v.np : Int) := by omega
        have HLT : Hid (k < v.np) := hlt
        have hwk : IntKind.i64.wrap ((k : Int) + 1) = (k : Int) + 1 := by have := HNP.out; rw [IntKind.wrap_i64]; omega
        obtain ⟨bb, o, A', m, c', hA, y0, y1, y2, y3, y4, hrd, hmc, hcc, hm7⟩ := (R.out.pp.to H.out.bel).at_ hlt
        rw [hA] at x1
        have HM7 : Hid (m ≤ 100000) := by (show _ ≤ _); rw [← hrd.1, ptAt_lt (by rw [R.out.pp.1]; exact hlt)]; exact HIM.out _ (List.getElem_mem _)
        have HPT : Hid (c.ps.take (k + 1) = c.ps.take k ++ [ptAt c.ps k]) := by
          (show _ = _)
          have hl : k < c.ps.length := by rw [R.out.pp.1]; exact hlt
          rw [List.take_succ_eq_append_getElem hl, ptAt_lt hl]
        generalize hp : ptAt c.ps k = p at *
        replace hp := Lib.hid hp
        obtain ⟨id, base, size, keep, img⟩ := p
        dsimp only at y0 y1 y2 y3 hrd
        have BC1 := (Below.refl wr.heap.size wr).alloc (Nat.le_refl _) (.cells #[.int .i64 id, .int .i64 base, .int .i64 size, .bool keep, .slice A' m c'] 43)
        have X1 : Hid (Bx (wr.alloc (.cells #[.int .i64 id, .int .i64 base, .int .i64 size, .bool keep, .slice A' m c'] 43)) wr.heap.size 43 [.int .i64 id, .int .i64 base, .int .i64 size, .bool keep, .slice A' m c']) := Bx.new wr _ [.int .i64 id, .int .i64 base, .int .i64 size, .bool keep, .slice A' m c']
        have R1 := Lib.hid (hrd.to BC1)
        have HP : Hid ((⟨id, base, size, keep, img⟩ : Pt) = ⟨id, base, size, keep, img⟩) := rfl
        replace BC1 := Lib.hid BC1
        clear hrd hmc hcc hm7 hlt hA
        go_upto_region 6 with (fail)
        generalize wr.alloc (.cells #[.int .i64 id, .int .i64 base, .int .i64 size, .bool keep, .slice A' m c'] 43) = wa at *
        clear x1 y0 y1 y2 y3 y4
        have hbx := Bx.new wa 5 []
        have O1 := Lib.hid (own_nilV (B := wr.heap.size + 1) (z := 1) hbx (by have := X1.out.lt; omega))
        have hal := (Below.refl wa.heap.size wa).alloc (Nat.le_refl _) (.cells #[] 5)
        have X2 := Lib.hid (X1.out.to hal)
        have BC2 := Lib.hid (BC1.out.trans (hal.mono BC1.out.size))
        have NW := Lib.hid (R1.out.to hal).news
        have p4 := X2.out.at (j := 4) rfl
        have p4a := X1.out.at (j := 4) rfl
        clear hbx hal X1 BC1
        go_upto_region 7 with (at_builtin; refine wpList_pushV vtB rfl _ _ rfl rfl rfl O1.out NW.out.1 NW.out.2 (bytes_one _) (by have := X2.out.lt; omega) (by have := HM7.out; omega) ?_; intro v10 w10 hown10 hk10 hv10; rw [Nat.zero_add, List.nil_append] at hown10; obtain ⟨A10, c10, rfl⟩ := own_slV hown10; have xb10 := X2.out.kept hk10 (fun hh => by have := (O1.out.lt _ hh).1; omega); have z10 := xb10.at (j := 4) rfl; have f10 := xb10.fz 4)
        have BC3 := hk10.below BC2.out BC2.out.size (fun k hk => by have := (O1.out.lt _ hk).1; omega)
        have BC4 := Lib.hid (BC3.setCell (p := ⟨wr.heap.size, 4, none⟩) (Nat.le_refl _) (.slice A10 m c10))
        have X4 := Lib.hid (xb10.set 4 (.slice A10 m c10))
        have O4 := Lib.hid (own_tv hown10 ((Keep.refl (· = wr.heap.size) _).setCell ⟨wr.heap.size, 4, none⟩ (.slice A10 m c10) rfl) (fun k hk => .inl (by have : k = wr.heap.size := hk; omega)))
        clear hown10 hk10 hv10 xb10 z10 f10 BC3 BC2 X2 O1 NW R1 p4 p4a
        generalize w10.setCell ⟨wr.heap.size, 4, none⟩ (.slice A10 m c10) = w11 at *
        have H4 := Lib.hid (H.out.step BC4.out)
        have HI : Hid (Img w11 wx.heap.size ⟨⟨id, base, size, keep, img⟩, A10, m, c10⟩) := by
          have hc := own_capV O4.out
          exact ⟨(OwR.of_own O4.out).mono (by have := H.out.kp.size; omega), hc.2.1, hc.2.2, Nat.le_trans HM7.out (by decide)⟩
        have HIO : Hid (∀ b, (Value.slice Ap qs.length cp).ownBlock = some b → Off A10 m (· = b)) := fun b hb => (OwR.of_own O4.out).off (fun k hk => by have := (H.out.op.row.lt b hb).2; have : k = b := hk; omega)
        have q0 := X4.out.at (j := 0) rfl
        have q1 := X4.out.at (j := 1) rfl
        have q2 := X4.out.at (j := 2) rfl
        have q3 := X4.out.at (j := 3) rfl
        have q4 := X4.out.at (j := 4) rfl
        have b1 := H4.out.box.at (j := 1) rfl
        have hal := (Below.refl w11.heap.size w11).alloc (Nat.le_refl _) (.cells #[.int .i64 id, .int .i64 base, .int .i64 size, .bool keep, .slice A10 m c10] 43)
        have H5 := Lib.hid (H4.out.step hal)
        have HI2 := Lib.hid (HI.out.kept (R := fun _ => False) (Keep.of_below hal) (fun _ _ _ _ hh => hh))
        have HNW2 := Lib.hid (cells_newV w11 43 (QP.cells ⟨⟨id, base, size, keep, img⟩, A10, m, c10⟩))
        have HQL : Hid (qs.length ≤ 1000) := by (show _ ≤ _); have e := congrArg List.length HQ.out; rw [List.length_map, List.length_take] at e; have := HLT.out; have := HNP.out; omega
        clear hal BC4 X4 O4 HI H4
        go_wp2_with (at_builtin; refine wpList_pushV vtP rfl _ _ rfl rfl rfl H5.out.op.row (m := 1) (news := QP.cells ⟨⟨id, base, size, keep, img⟩, A10, m, c10⟩) rfl (fun _ => ⟨_, rfl, HNW2.out⟩) (by have := partsV_one [⟨⟨id, base, size, keep, img⟩, A10, m, c10⟩]; simpa [partsV] using this) H5.out.kp.size (by have := HQL.out; omega) ?_; intro v12 w12 hown12 hk12 hv12; obtain ⟨A12, c12, rfl⟩ := own_slV hown12; have xb12 := H5.out.box.kept hk12 (fun hh => by have := (H5.out.op.row.lt _ hh).1; have := H5.out.gx; omega); have z12 := xb12.at (j := 1) rfl; have f12 := xb12.fz 1)
        have H12 := Lib.hid (H5.out.push HI2.out HIO.out hown12 hk12 hv12)
        go_roundw
        case rel => exact ⟨k + 1, HLT.out, by go_num, _, _, H12.out, by rw [List.map_append, HQ.out, HPT.out]; rfl⟩
        case measure => simp [intOf]; omega
      · obtain rfl : k = v.np := by have := HK.out; omega
        clear hlt
        have Z1 := Z.out.to H.out.bel
        have b0 := H.out.box.at (j := 0) rfl
        have b1 := H.out.box.at (j := 1) rfl
        have b2 := H.out.box.at (j := 2) rfl
        have z0 := Z1.at (j := 0) rfl
        have z1 := Z1.at (j := 1) rfl
        have z2 := Z1.at (j := 2) rfl
        have f0 := Z1.fz 0
        have f1 := Z1.fz 1
        have f2 := Z1.fz 2
        have HZ1 := Lib.hid Z1
        clear Z1
        go_wp2_with fail
        have P9 := HZ1.out.sets [.slice A3 v.nw c3, .slice Ap qs.length cp, .slice A7 v.nc c7] rfl
        have B9 := below_sets (Nat.le_succ w.heap.size) [.slice A3 v.nw c3, .slice Ap qs.length cp, .slice A7 v.nc c7] 0 (BW.out.trans (H.out.bel.mono BW.out.size))
        have hK := Keep.sets (R := (· = w.heap.size + 1)) rfl [.slice A3 v.nw c3, .slice Ap qs.length cp, .slice A7 v.nc c7] 0 (Keep.refl _ wr)
        have hql : qs.length = v.np := by
          have e := congrArg List.length HQ.out
          rw [List.length_map, List.length_take, R.out.pp.1] at e
          omega
        have hs2 := S2.out
        have hgx := H.out.gx
        have hg2 := H.out.g2
        have OC : OwX (setsC wr (w.heap.size + 1) 0 [.slice A3 v.nw c3, .slice Ap qs.length cp, .slice A7 v.nc c7]) w2.heap.size ⟨A3, v.nw, c3, Ap, qs.length, cp, A7, v.nc, c7⟩ c qs := by
          have hR : ∀ k, (· = w.heap.size + 1) k → k < w2.heap.size ∨ wr.heap.size ≤ k := fun k hk => .inl (by (show k < _); have : k = w.heap.size + 1 := hk; omega)
          have o3 := own_kv O3.out H.out.kp (fun b hb hh => by
            rcases hh with rfl | hh
            · exact NB3.out hb
            · have := (O3.out.lt b hb).2; omega)
          have o7 := own_kv O7.out H.out.kp (fun b hb hh => by
            rcases hh with rfl | hh
            · exact NB7.out hb
            · have := (O7.out.lt b hb).2; omega)
          have op := H.out.op.to hK (fun k hk => .inl (by have : k = w.heap.size + 1 := hk; omega))
          refine ⟨own_tv (own_moV o3 HT.out) hK hR, ⟨own_moV op.row (by omega), fun q hq => ⟨(op.img q hq).own.mono (by omega), (op.img q hq).mc, (op.img q hq).cc⟩, op.off⟩, ?_, own_tv (own_moV o7 HT.out) hK hR, fun q hq b hb => (op.img q hq).own.off (fun k hk => by have : k = b := hk; have := (O3.out.lt b hb).2; omega), fun q hq b hb => (op.img q hq).own.off (fun k hk => by have : k = b := hk; have := (O7.out.lt b hb).2; omega)⟩
          rw [HQ.out, List.take_of_length_le (Nat.le_of_eq R.out.pp.1)]
        have OC2 := OC.mono (show w.heap.size ≤ w2.heap.size by omega)
        change bodyPost _ _ _ _ _ (setsC wr (w.heap.size + 1) 0 [.slice A3 v.nw c3, .slice Ap qs.length cp, .slice A7 v.nc c7])
        clear hK OC
        generalize setsC wr (w.heap.size + 1) 0 [.slice A3 v.nw c3, .slice Ap qs.length cp, .slice A7 v.nc c7] = w9 at *
        exact bodyPost_ret (res_cf1 rfl _ _ (w.heap.size + 1) _ _ _ rfl P9) rfl ⟨⟨A3, v.nw, c3, Ap, qs.length, cp, A7, v.nc, c7⟩, qs, rfl, OC2, B9⟩
  obtain ⟨wd, hwd⟩ : ∃ wd, w2.drew = wd := ⟨_, rfl⟩
  have SK : Hid (∀ w', Below wd.heap.size wd w' → w'.cell? ⟨w.heap.size, 0, none⟩ = some (.slice v.aw v.nw v.kw) ∧ w'.cell? ⟨w.heap.size, 2, none⟩ = some (.slice v.ac v.nc v.kc)) := fun W hW => by
    have hx : Bx wd w.heap.size 26 (cfL v) := by rw [← hwd]; exact X.out
    exact ⟨(hx.to hW).at (j := 0) rfl, (hx.to hW).at (j := 2) rfl⟩
  have RW : Hid (RdG wd wd.heap.size v.aw v.nw c.ws) := by (show RdG _ _ _ _ _); rw [← hwd]; exact R.out.ww
  have RC : Hid (RdC wd wd.heap.size v.ac v.nc c.cs) := by (show RdC _ _ _ _ _); rw [← hwd]; exact R.out.cc
  have B2 : Hid (Below w2.heap.size w2 wd) := by (show Below _ _ _); rw [← hwd]; exact (Below.refl _ w2).drew
  have BB : Hid (Below wd.heap.size wd wd) := Below.refl _ _
  obtain ⟨T, hT⟩ : ∃ T, wd.heap.size = T := ⟨_, rfl⟩
  have HT := Lib.hid hT
  clear hT
  refine wp_region_held_drew (S := (fun w' => w'.cell? ⟨w.heap.size, 0, none⟩ = some (.slice v.aw v.nw v.kw) ∧ w'.cell? ⟨w.heap.size, 2, none⟩ = some (.slice v.ac v.nc v.kc))) (by kernel_rfl) ((by rw [hwd]; exact SK.out _ (Below.refl _ _))) (fun hHeld => ?_)
  rw [hwd] at hHeld ⊢
  clear hwd
  refine wpAnyH_take (i := 1) (v := ?_) rfl (by kernel_rfl) (by kernel_rfl) (by kernel_rfl) (fun _ _ _ h => h) (Or.inl ⟨by rfl, ?_⟩) (by assumption) ?_
  rotate_left 1
  · intro w hSw; (try dsimp only at hSw); go_simp; (try with_reducible rfl)
  simp only [Act.put, List.getElem_toArray, List.getElem_cons_zero, List.getElem_cons_succ, List.setIfInBounds_toArray, List.set_cons_zero, List.set_cons_succ]
  refine wpAnyH_take (i := 2) (v := ?_) rfl (by kernel_rfl) (by kernel_rfl) (by kernel_rfl) (fun _ _ _ h => h) (Or.inl ⟨by rfl, ?_⟩) (by assumption) ?_
  rotate_left 1
  · intro w hSw; (try dsimp only at hSw); go_simp; (try with_reducible rfl)
  simp only [Act.put, List.getElem_toArray, List.getElem_cons_zero, List.getElem_cons_succ, List.setIfInBounds_toArray, List.set_cons_zero, List.set_cons_succ]
  refine wpAnyH_take (i := 5) (v := ?_) rfl (by kernel_rfl) (by kernel_rfl) (by kernel_rfl) (fun _ _ _ h => h) (Or.inl ⟨by rfl, ?_⟩) (by assumption) ?_
  rotate_left 1
  · intro w hSw; (try dsimp only at hSw); go_simp; (try with_reducible rfl)
  simp only [Act.put, List.getElem_toArray, List.getElem_cons_zero, List.getElem_cons_succ, List.setIfInBounds_toArray, List.set_cons_zero, List.set_cons_succ]
  refine wpAnyH_take (i := 6) (v := ?_) rfl (by kernel_rfl) (by kernel_rfl) (by kernel_rfl) (fun _ _ _ h => h) (Or.inl ⟨by rfl, ?_⟩) (by assumption) ?_
  rotate_left 1
  · intro w hSw; (try dsimp only at hSw); go_simp; (try with_reducible rfl)
  simp only [Act.put, List.getElem_toArray, List.getElem_cons_zero, List.getElem_cons_succ, List.setIfInBounds_toArray, List.set_cons_zero, List.set_cons_succ]
  refine wpAnyH_ready (rs := [0, 4, 9]) (by kernel_rfl) (by simp) ?_
  refine AllReadyH.cons rfl (fun K hK => ?_) (AllReadyH.cons rfl (fun K hK => ?_) (AllReadyH.cons rfl (fun K hK => ?_) AllReadyH.nil))
  · skip
    go_simp
    refine hK.out _ _ (SK.out _ (BB.out.alloc BB.out.size (.cells #[] 59))) (fun hHeld => ?_)
    clear hK K
    have hal := (Below.refl wd.heap.size wd).alloc (Nat.le_refl _) (.cells #[] 59)
    have O0 := Lib.hid (own_nilV (B := T) (z := 2) (Bx.new wd 59 []) (Nat.le_trans (Nat.le_of_eq HT.out.symm) BB.out.size))
    replace BB := Lib.hid (BB.out.trans (hal.mono BB.out.size))
    clear hal
    obtain ⟨g0, hg0⟩ : ∃ g, wd.heap.size = g := ⟨_, rfl⟩
    rw [hg0] at O0 ⊢
    clear hg0
    have e9 : ([] : List Value).toArray = #[] := rfl
    rw [e9] at *
    clear e9
    generalize wd.alloc (.cells #[] 59) = wn1 at *
    refine wpAnyH_ready (rs := [3, 4, 9]) (by kernel_rfl) (by simp) ?_
    refine AllReadyH.cons rfl (fun K hK => ?_) (AllReadyH.cons rfl (fun K hK => ?_) (AllReadyH.cons rfl (fun K hK => ?_) AllReadyH.nil))
    · have NW := Lib.hid (RW.out.newsTo BB.out)
      refine (step_pushV vtW rfl _ _ rfl rfl rfl O0.out NW.out.1 NW.out.2 (winsV_one _) (Nat.le_trans (Nat.le_of_eq HT.out.symm) BB.out.size) (by have := HNW.out; omega) ?_)
      intro v3 wn2 hown hk hv
      rw [Nat.zero_add, List.nil_append] at hown
      obtain ⟨A3, c3, rfl⟩ := own_slV hown
      have BK := hk.below BB.out BB.out.size (fun k hk => Nat.le_trans (Nat.le_of_eq HT.out) (O0.out.lt k hk).1)
      refine hK.out _ _ (SK.out _ BK) (fun hHeld => ?_)
      clear hK K
      simp only [Act.put, List.getElem_toArray, List.getElem_cons_zero, List.getElem_cons_succ, List.setIfInBounds_toArray, List.set_cons_zero, List.set_cons_succ]
      have O3 := Lib.hid hown
      replace BB := Lib.hid BK
      clear hown hk hv BK NW O0
      refine wpAnyH_ready (rs := [4, 9]) (by kernel_rfl) (by simp) ?_
      refine AllReadyH.cons rfl (fun K hK => ?_) (AllReadyH.cons rfl (fun K hK => ?_) AllReadyH.nil)
      · skip
        go_simp
        refine hK.out _ _ (SK.out _ (BB.out.alloc BB.out.size (.cells #[] 47))) (fun hHeld => ?_)
        clear hK K
        have hal := (Below.refl wn2.heap.size wn2).alloc (Nat.le_refl _) (.cells #[] 47)
        have O4 := Lib.hid (own_nilV (B := T) (z := 5) (Bx.new wn2 47 []) (Nat.le_trans (Nat.le_of_eq HT.out.symm) BB.out.size))
        replace O3 := Lib.hid (own_bv O3.out hal)
        replace BB := Lib.hid (BB.out.trans (hal.mono BB.out.size))
        clear hal
        obtain ⟨g4, hg4⟩ : ∃ g, wn2.heap.size = g := ⟨_, rfl⟩
        rw [hg4] at O4 ⊢
        clear hg4
        have e9 : ([] : List Value).toArray = #[] := rfl
        rw [e9] at *
        clear e9
        generalize wn2.alloc (.cells #[] 47) = wn3 at *
        refine wpAnyH_ready (rs := [7, 9]) (by kernel_rfl) (by simp) ?_
        refine AllReadyH.cons rfl (fun K hK => ?_) (AllReadyH.cons rfl (fun K hK => ?_) AllReadyH.nil)
        · have NW := Lib.hid (RC.out.newsTo BB.out)
          refine (step_pushV vtC rfl _ _ rfl rfl rfl O4.out NW.out.1 NW.out.2 (chsV_one _) (Nat.le_trans (Nat.le_of_eq HT.out.symm) BB.out.size) (by have := HNC.out; omega) ?_)
          intro v7 wn4 hown hk hv
          rw [Nat.zero_add, List.nil_append] at hown
          obtain ⟨A7, c7, rfl⟩ := own_slV hown
          have BK := hk.below BB.out BB.out.size (fun k hk => Nat.le_trans (Nat.le_of_eq HT.out) (O4.out.lt k hk).1)
          refine hK.out _ _ (SK.out _ BK) (fun hHeld => ?_)
          clear hK K
          simp only [Act.put, List.getElem_toArray, List.getElem_cons_zero, List.getElem_cons_succ, List.setIfInBounds_toArray, List.set_cons_zero, List.set_cons_succ]
          have O7 := Lib.hid hown
          replace O3 := Lib.hid (own_kv O3.out hk (fun b hb hh => own_ne O3.out O4.out (by decide) hb hh))
          replace BB := Lib.hid BK
          clear hown hk hv BK NW O4
          refine wpAnyH_take (i := 8) (v := ?_) rfl (by kernel_rfl) (by kernel_rfl) (by kernel_rfl) (fun _ _ _ h => h) (Or.inl ⟨by rfl, ?_⟩) (by assumption) ?_
          rotate_left 1
          · intro w hSw; (try dsimp only at hSw); go_simp; (try with_reducible rfl)
          simp only [Act.put, List.getElem_toArray, List.getElem_cons_zero, List.getElem_cons_succ, List.setIfInBounds_toArray, List.set_cons_zero, List.set_cons_succ]
          refine wpAnyH_ready (rs := [9]) (by kernel_rfl) (by simp) ?_
          refine AllReadyH.cons rfl (fun K hK => ?_) AllReadyH.nil
          go_simp
          refine hK.out _ _ (SK.out _ (BB.out.alloc BB.out.size (.cells #[.slice none 0 0, .slice none 0 0, .slice none 0 0] 26))) (fun hHeld => ?_)
          clear hK K
          have hal := (Below.refl wn4.heap.size wn4).alloc (Nat.le_refl _) (.cells #[.slice none 0 0, .slice none 0 0, .slice none 0 0] 26)
          have Z3 : Hid (Bx (wn4.alloc (.cells #[.slice none 0 0, .slice none 0 0, .slice none 0 0] 26)) wn4.heap.size 26 [.slice none 0 0, .slice none 0 0, .slice none 0 0]) := Bx.new wn4 _ [.slice none 0 0, .slice none 0 0, .slice none 0 0]
          replace O3 := Lib.hid (own_bv O3.out hal)
          replace O7 := Lib.hid (own_bv O7.out hal)
          have HG3 : Hid (T ≤ wn4.heap.size) := Nat.le_trans (Nat.le_of_eq HT.out.symm) BB.out.size
          replace BB := Lib.hid (BB.out.trans (hal.mono BB.out.size))
          clear hal
          obtain ⟨g3, hg3⟩ : ∃ g, wn4.heap.size = g := ⟨_, rfl⟩
          rw [hg3] at Z3 HG3 ⊢
          clear hg3
          generalize wn4.alloc (.cells #[.slice none 0 0, .slice none 0 0, .slice none 0 0] 26) = wn5 at *
          have z0 := Z3.out.at (j := 0) rfl
          have z1 := Z3.out.at (j := 1) rfl
          have z2 := Z3.out.at (j := 2) rfl
          have f0 := Z3.out.fz 0
          have f1 := Z3.out.fz 1
          have f2 := Z3.out.fz 2
          have hK := Keep.sets (R := (· = g3)) rfl [.slice A3 v.nw c3, .slice none 0 0, .slice A7 v.nc c7] 0 (Keep.refl _ wn5)
          have BS := below_sets (Nat.le_trans (Nat.le_of_eq HT.out) HG3.out) [.slice A3 v.nw c3, .slice none 0 0, .slice A7 v.nc c7] 0 BB.out
          have N3 := cpb_ne O3.out Z3.out (by decide)
          have N7 := cpb_ne O7.out Z3.out (by decide)
          have P3 := Z3.out.sets [.slice A3 v.nw c3, .slice none 0 0, .slice A7 v.nc c7] rfl
          have O3' := own_kv O3.out hK (fun b hb hh => N3 (hh ▸ hb))
          have O7' := own_kv O7.out hK (fun b hb hh => N7 (hh ▸ hb))
          refine wpAnyH_ready (rs := [10]) (by kernel_rfl) (by simp) ?_
          refine AllReadyH.cons rfl (fun K hK => ?_) AllReadyH.nil
          go_simp
          refine hK.out _ _ (SK.out _ BS) (fun hHeld => ?_)
          clear hK K
          refine wpAnyH_done (by kernel_rfl) ?_ _
          exact REST.out g3 _ _ T c3 c7 A3 A7 _ (by have := B2.out.size; have := HT.out; omega) HG3.out P3 O3' O7' (B2.out.trans (BS.mono B2.out.size))
        · skip
          go_simp
          refine hK.out _ _ (SK.out _ (BB.out.alloc BB.out.size (.cells #[.slice none 0 0, .slice none 0 0, .slice none 0 0] 26))) (fun hHeld => ?_)
          clear hK K
          have hal := (Below.refl wn3.heap.size wn3).alloc (Nat.le_refl _) (.cells #[.slice none 0 0, .slice none 0 0, .slice none 0 0] 26)
          have Z3 : Hid (Bx (wn3.alloc (.cells #[.slice none 0 0, .slice none 0 0, .slice none 0 0] 26)) wn3.heap.size 26 [.slice none 0 0, .slice none 0 0, .slice none 0 0]) := Bx.new wn3 _ [.slice none 0 0, .slice none 0 0, .slice none 0 0]
          replace O4 := Lib.hid (own_bv O4.out hal)
          replace O3 := Lib.hid (own_bv O3.out hal)
          have HG3 : Hid (T ≤ wn3.heap.size) := Nat.le_trans (Nat.le_of_eq HT.out.symm) BB.out.size
          replace BB := Lib.hid (BB.out.trans (hal.mono BB.out.size))
          clear hal
          obtain ⟨g3, hg3⟩ : ∃ g, wn3.heap.size = g := ⟨_, rfl⟩
          rw [hg3] at Z3 HG3 ⊢
          clear hg3
          generalize wn3.alloc (.cells #[.slice none 0 0, .slice none 0 0, .slice none 0 0] 26) = wn7 at *
          have NW := Lib.hid (RC.out.newsTo BB.out)
          refine wpAnyH_ready (rs := [7]) (by kernel_rfl) (by simp) ?_
          refine AllReadyH.cons rfl (fun K hK => ?_) AllReadyH.nil
          refine (step_pushV vtC rfl _ _ rfl rfl rfl O4.out NW.out.1 NW.out.2 (chsV_one _) (Nat.le_trans (Nat.le_of_eq HT.out.symm) BB.out.size) (by have := HNC.out; omega) ?_)
          intro v7 wn8 hown hk hv
          rw [Nat.zero_add, List.nil_append] at hown
          obtain ⟨A7, c7, rfl⟩ := own_slV hown
          have BK := hk.below BB.out BB.out.size (fun k hk => Nat.le_trans (Nat.le_of_eq HT.out) (O4.out.lt k hk).1)
          refine hK.out _ _ (SK.out _ BK) (fun hHeld => ?_)
          clear hK K
          simp only [Act.put, List.getElem_toArray, List.getElem_cons_zero, List.getElem_cons_succ, List.setIfInBounds_toArray, List.set_cons_zero, List.set_cons_succ]
          have O7 := Lib.hid hown
          replace O3 := Lib.hid (own_kv O3.out hk (fun b hb hh => own_ne O3.out O4.out (by decide) hb hh))
          replace Z3 := Lib.hid (Z3.out.kept hk (cpb_ne O4.out Z3.out (by decide)))
          replace BB := Lib.hid BK
          clear hown hk hv BK NW O4
          refine wpAnyH_take (i := 8) (v := ?_) rfl (by kernel_rfl) (by kernel_rfl) (by kernel_rfl) (fun _ _ _ h => h) (Or.inl ⟨by rfl, ?_⟩) (by assumption) ?_
          rotate_left 1
          · intro w hSw; (try dsimp only at hSw); go_simp; (try with_reducible rfl)
          simp only [Act.put, List.getElem_toArray, List.getElem_cons_zero, List.getElem_cons_succ, List.setIfInBounds_toArray, List.set_cons_zero, List.set_cons_succ]
          have z0 := Z3.out.at (j := 0) rfl
          have z1 := Z3.out.at (j := 1) rfl
          have z2 := Z3.out.at (j := 2) rfl
          have f0 := Z3.out.fz 0
          have f1 := Z3.out.fz 1
          have f2 := Z3.out.fz 2
          have hK := Keep.sets (R := (· = g3)) rfl [.slice A3 v.nw c3, .slice none 0 0, .slice A7 v.nc c7] 0 (Keep.refl _ wn8)
          have BS := below_sets (Nat.le_trans (Nat.le_of_eq HT.out) HG3.out) [.slice A3 v.nw c3, .slice none 0 0, .slice A7 v.nc c7] 0 BB.out
          have N3 := cpb_ne O3.out Z3.out (by decide)
          have N7 := cpb_ne O7.out Z3.out (by decide)
          have P3 := Z3.out.sets [.slice A3 v.nw c3, .slice none 0 0, .slice A7 v.nc c7] rfl
          have O3' := own_kv O3.out hK (fun b hb hh => N3 (hh ▸ hb))
          have O7' := own_kv O7.out hK (fun b hb hh => N7 (hh ▸ hb))
          refine wpAnyH_ready (rs := [10]) (by kernel_rfl) (by simp) ?_
          refine AllReadyH.cons rfl (fun K hK => ?_) AllReadyH.nil
          go_simp
          refine hK.out _ _ (SK.out _ BS) (fun hHeld => ?_)
          clear hK K
          refine wpAnyH_done (by kernel_rfl) ?_ _
          exact REST.out g3 _ _ T c3 c7 A3 A7 _ (by have := B2.out.size; have := HT.out; omega) HG3.out P3 O3' O7' (B2.out.trans (BS.mono B2.out.size))
      · skip
        go_simp
        refine hK.out _ _ (SK.out _ (BB.out.alloc BB.out.size (.cells #[.slice none 0 0, .slice none 0 0, .slice none 0 0] 26))) (fun hHeld => ?_)
        clear hK K
        have hal := (Below.refl wn2.heap.size wn2).alloc (Nat.le_refl _) (.cells #[.slice none 0 0, .slice none 0 0, .slice none 0 0] 26)
        have Z3 : Hid (Bx (wn2.alloc (.cells #[.slice none 0 0, .slice none 0 0, .slice none 0 0] 26)) wn2.heap.size 26 [.slice none 0 0, .slice none 0 0, .slice none 0 0]) := Bx.new wn2 _ [.slice none 0 0, .slice none 0 0, .slice none 0 0]
        replace O3 := Lib.hid (own_bv O3.out hal)
        have HG3 : Hid (T ≤ wn2.heap.size) := Nat.le_trans (Nat.le_of_eq HT.out.symm) BB.out.size
        replace BB := Lib.hid (BB.out.trans (hal.mono BB.out.size))
        clear hal
        obtain ⟨g3, hg3⟩ : ∃ g, wn2.heap.size = g := ⟨_, rfl⟩
        rw [hg3] at Z3 HG3 ⊢
        clear hg3
        generalize wn2.alloc (.cells #[.slice none 0 0, .slice none 0 0, .slice none 0 0] 26) = wn10 at *
        refine wpAnyH_ready (rs := [4]) (by kernel_rfl) (by simp) ?_
        refine AllReadyH.cons rfl (fun K hK => ?_) AllReadyH.nil
        go_simp
        refine hK.out _ _ (SK.out _ (BB.out.alloc BB.out.size (.cells #[] 47))) (fun hHeld => ?_)
        clear hK K
        have hal := (Below.refl wn10.heap.size wn10).alloc (Nat.le_refl _) (.cells #[] 47)
        have O4 := Lib.hid (own_nilV (B := T) (z := 5) (Bx.new wn10 47 []) (Nat.le_trans (Nat.le_of_eq HT.out.symm) BB.out.size))
        replace O3 := Lib.hid (own_bv O3.out hal)
        replace Z3 := Lib.hid (Z3.out.to hal)
        replace BB := Lib.hid (BB.out.trans (hal.mono BB.out.size))
        clear hal
        obtain ⟨g4, hg4⟩ : ∃ g, wn10.heap.size = g := ⟨_, rfl⟩
        rw [hg4] at O4 ⊢
        clear hg4
        have e9 : ([] : List Value).toArray = #[] := rfl
        rw [e9] at *
        clear e9
        generalize wn10.alloc (.cells #[] 47) = wn11 at *
        have NW := Lib.hid (RC.out.newsTo BB.out)
        refine wpAnyH_ready (rs := [7]) (by kernel_rfl) (by simp) ?_
        refine AllReadyH.cons rfl (fun K hK => ?_) AllReadyH.nil
        refine (step_pushV vtC rfl _ _ rfl rfl rfl O4.out NW.out.1 NW.out.2 (chsV_one _) (Nat.le_trans (Nat.le_of_eq HT.out.symm) BB.out.size) (by have := HNC.out; omega) ?_)
        intro v7 wn12 hown hk hv
        rw [Nat.zero_add, List.nil_append] at hown
        obtain ⟨A7, c7, rfl⟩ := own_slV hown
        have BK := hk.below BB.out BB.out.size (fun k hk => Nat.le_trans (Nat.le_of_eq HT.out) (O4.out.lt k hk).1)
        refine hK.out _ _ (SK.out _ BK) (fun hHeld => ?_)
        clear hK K
        simp only [Act.put, List.getElem_toArray, List.getElem_cons_zero, List.getElem_cons_succ, List.setIfInBounds_toArray, List.set_cons_zero, List.set_cons_succ]
        have O7 := Lib.hid hown
        replace O3 := Lib.hid (own_kv O3.out hk (fun b hb hh => own_ne O3.out O4.out (by decide) hb hh))
        replace Z3 := Lib.hid (Z3.out.kept hk (cpb_ne O4.out Z3.out (by decide)))
        replace BB := Lib.hid BK
        clear hown hk hv BK NW O4
        refine wpAnyH_take (i := 8) (v := ?_) rfl (by kernel_rfl) (by kernel_rfl) (by kernel_rfl) (fun _ _ _ h => h) (Or.inl ⟨by rfl, ?_⟩) (by assumption) ?_
        rotate_left 1
        · intro w hSw; (try dsimp only at hSw); go_simp; (try with_reducible rfl)
        simp only [Act.put, List.getElem_toArray, List.getElem_cons_zero, List.getElem_cons_succ, List.setIfInBounds_toArray, List.set_cons_zero, List.set_cons_succ]
        have z0 := Z3.out.at (j := 0) rfl
        have z1 := Z3.out.at (j := 1) rfl
        have z2 := Z3.out.at (j := 2) rfl
        have f0 := Z3.out.fz 0
        have f1 := Z3.out.fz 1
        have f2 := Z3.out.fz 2
        have hK := Keep.sets (R := (· = g3)) rfl [.slice A3 v.nw c3, .slice none 0 0, .slice A7 v.nc c7] 0 (Keep.refl _ wn12)
        have BS := below_sets (Nat.le_trans (Nat.le_of_eq HT.out) HG3.out) [.slice A3 v.nw c3, .slice none 0 0, .slice A7 v.nc c7] 0 BB.out
        have N3 := cpb_ne O3.out Z3.out (by decide)
        have N7 := cpb_ne O7.out Z3.out (by decide)
        have P3 := Z3.out.sets [.slice A3 v.nw c3, .slice none 0 0, .slice A7 v.nc c7] rfl
        have O3' := own_kv O3.out hK (fun b hb hh => N3 (hh ▸ hb))
        have O7' := own_kv O7.out hK (fun b hb hh => N7 (hh ▸ hb))
        refine wpAnyH_ready (rs := [10]) (by kernel_rfl) (by simp) ?_
        refine AllReadyH.cons rfl (fun K hK => ?_) AllReadyH.nil
        go_simp
        refine hK.out _ _ (SK.out _ BS) (fun hHeld => ?_)
        clear hK K
        refine wpAnyH_done (by kernel_rfl) ?_ _
        exact REST.out g3 _ _ T c3 c7 A3 A7 _ (by have := B2.out.size; have := HT.out; omega) HG3.out P3 O3' O7' (B2.out.trans (BS.mono B2.out.size))
    · skip
      go_simp
      refine hK.out _ _ (SK.out _ (BB.out.alloc BB.out.size (.cells #[] 47))) (fun hHeld => ?_)
      clear hK K
      have hal := (Below.refl wn1.heap.size wn1).alloc (Nat.le_refl _) (.cells #[] 47)
      have O4 := Lib.hid (own_nilV (B := T) (z := 5) (Bx.new wn1 47 []) (Nat.le_trans (Nat.le_of_eq HT.out.symm) BB.out.size))
      replace O0 := Lib.hid (own_bv O0.out hal)
      replace BB := Lib.hid (BB.out.trans (hal.mono BB.out.size))
      clear hal
      obtain ⟨g4, hg4⟩ : ∃ g, wn1.heap.size = g := ⟨_, rfl⟩
      rw [hg4] at O4 ⊢
      clear hg4
      have e9 : ([] : List Value).toArray = #[] := rfl
      rw [e9] at *
      clear e9
      generalize wn1.alloc (.cells #[] 47) = wn14 at *
      refine wpAnyH_ready (rs := [3, 9]) (by kernel_rfl) (by simp) ?_
      refine AllReadyH.cons rfl (fun K hK => ?_) (AllReadyH.cons rfl (fun K hK => ?_) AllReadyH.nil)
      · have NW := Lib.hid (RW.out.newsTo BB.out)
        refine (step_pushV vtW rfl _ _ rfl rfl rfl O0.out NW.out.1 NW.out.2 (winsV_one _) (Nat.le_trans (Nat.le_of_eq HT.out.symm) BB.out.size) (by have := HNW.out; omega) ?_)
        intro v3 wn15 hown hk hv
        rw [Nat.zero_add, List.nil_append] at hown
        obtain ⟨A3, c3, rfl⟩ := own_slV hown
        have BK := hk.below BB.out BB.out.size (fun k hk => Nat.le_trans (Nat.le_of_eq HT.out) (O0.out.lt k hk).1)
        refine hK.out _ _ (SK.out _ BK) (fun hHeld => ?_)
        clear hK K
        simp only [Act.put, List.getElem_toArray, List.getElem_cons_zero, List.getElem_cons_succ, List.setIfInBounds_toArray, List.set_cons_zero, List.set_cons_succ]
        have O3 := Lib.hid hown
        replace O4 := Lib.hid (own_kv O4.out hk (fun b hb hh => own_ne O4.out O0.out (by decide) hb hh))
        replace BB := Lib.hid BK
        clear hown hk hv BK NW O0
        refine wpAnyH_ready (rs := [7, 9]) (by kernel_rfl) (by simp) ?_
        refine AllReadyH.cons rfl (fun K hK => ?_) (AllReadyH.cons rfl (fun K hK => ?_) AllReadyH.nil)
        · have NW := Lib.hid (RC.out.newsTo BB.out)
          refine (step_pushV vtC rfl _ _ rfl rfl rfl O4.out NW.out.1 NW.out.2 (chsV_one _) (Nat.le_trans (Nat.le_of_eq HT.out.symm) BB.out.size) (by have := HNC.out; omega) ?_)
          intro v7 wn16 hown hk hv
          rw [Nat.zero_add, List.nil_append] at hown
          obtain ⟨A7, c7, rfl⟩ := own_slV hown
          have BK := hk.below BB.out BB.out.size (fun k hk => Nat.le_trans (Nat.le_of_eq HT.out) (O4.out.lt k hk).1)
          refine hK.out _ _ (SK.out _ BK) (fun hHeld => ?_)
          clear hK K
          simp only [Act.put, List.getElem_toArray, List.getElem_cons_zero, List.getElem_cons_succ, List.setIfInBounds_toArray, List.set_cons_zero, List.set_cons_succ]
          have O7 := Lib.hid hown
          replace O3 := Lib.hid (own_kv O3.out hk (fun b hb hh => own_ne O3.out O4.out (by decide) hb hh))
          replace BB := Lib.hid BK
          clear hown hk hv BK NW O4
          refine wpAnyH_take (i := 8) (v := ?_) rfl (by kernel_rfl) (by kernel_rfl) (by kernel_rfl) (fun _ _ _ h => h) (Or.inl ⟨by rfl, ?_⟩) (by assumption) ?_
          rotate_left 1
          · intro w hSw; (try dsimp only at hSw); go_simp; (try with_reducible rfl)
          simp only [Act.put, List.getElem_toArray, List.getElem_cons_zero, List.getElem_cons_succ, List.setIfInBounds_toArray, List.set_cons_zero, List.set_cons_succ]
          refine wpAnyH_ready (rs := [9]) (by kernel_rfl) (by simp) ?_
          refine AllReadyH.cons rfl (fun K hK => ?_) AllReadyH.nil
          go_simp
          refine hK.out _ _ (SK.out _ (BB.out.alloc BB.out.size (.cells #[.slice none 0 0, .slice none 0 0, .slice none 0 0] 26))) (fun hHeld => ?_)
          clear hK K
          have hal := (Below.refl wn16.heap.size wn16).alloc (Nat.le_refl _) (.cells #[.slice none 0 0, .slice none 0 0, .slice none 0 0] 26)
          have Z3 : Hid (Bx (wn16.alloc (.cells #[.slice none 0 0, .slice none 0 0, .slice none 0 0] 26)) wn16.heap.size 26 [.slice none 0 0, .slice none 0 0, .slice none 0 0]) := Bx.new wn16 _ [.slice none 0 0, .slice none 0 0, .slice none 0 0]
          replace O3 := Lib.hid (own_bv O3.out hal)
          replace O7 := Lib.hid (own_bv O7.out hal)
          have HG3 : Hid (T ≤ wn16.heap.size) := Nat.le_trans (Nat.le_of_eq HT.out.symm) BB.out.size
          replace BB := Lib.hid (BB.out.trans (hal.mono BB.out.size))
          clear hal
          obtain ⟨g3, hg3⟩ : ∃ g, wn16.heap.size = g := ⟨_, rfl⟩
          rw [hg3] at Z3 HG3 ⊢
          clear hg3
          generalize wn16.alloc (.cells #[.slice none 0 0, .slice none 0 0, .slice none 0 0] 26) = wn17 at *
          have z0 := Z3.out.at (j := 0) rfl
          have z1 := Z3.out.at (j := 1) rfl
          have z2 := Z3.out.at (j := 2) rfl
          have f0 := Z3.out.fz 0
          have f1 := Z3.out.fz 1
          have f2 := Z3.out.fz 2
          have hK := Keep.sets (R := (· = g3)) rfl [.slice A3 v.nw c3, .slice none 0 0, .slice A7 v.nc c7] 0 (Keep.refl _ wn17)
          have BS := below_sets (Nat.le_trans (Nat.le_of_eq HT.out) HG3.out) [.slice A3 v.nw c3, .slice none 0 0, .slice A7 v.nc c7] 0 BB.out
          have N3 := cpb_ne O3.out Z3.out (by decide)
          have N7 := cpb_ne O7.out Z3.out (by decide)
          have P3 := Z3.out.sets [.slice A3 v.nw c3, .slice none 0 0, .slice A7 v.nc c7] rfl
          have O3' := own_kv O3.out hK (fun b hb hh => N3 (hh ▸ hb))
          have O7' := own_kv O7.out hK (fun b hb hh => N7 (hh ▸ hb))
          refine wpAnyH_ready (rs := [10]) (by kernel_rfl) (by simp) ?_
          refine AllReadyH.cons rfl (fun K hK => ?_) AllReadyH.nil
          go_simp
          refine hK.out _ _ (SK.out _ BS) (fun hHeld => ?_)
          clear hK K
          refine wpAnyH_done (by kernel_rfl) ?_ _
          exact REST.out g3 _ _ T c3 c7 A3 A7 _ (by have := B2.out.size; have := HT.out; omega) HG3.out P3 O3' O7' (B2.out.trans (BS.mono B2.out.size))
        · skip
          go_simp
          refine hK.out _ _ (SK.out _ (BB.out.alloc BB.out.size (.cells #[.slice none 0 0, .slice none 0 0, .slice none 0 0] 26))) (fun hHeld => ?_)
          clear hK K
          have hal := (Below.refl wn15.heap.size wn15).alloc (Nat.le_refl _) (.cells #[.slice none 0 0, .slice none 0 0, .slice none 0 0] 26)
          have Z3 : Hid (Bx (wn15.alloc (.cells #[.slice none 0 0, .slice none 0 0, .slice none 0 0] 26)) wn15.heap.size 26 [.slice none 0 0, .slice none 0 0, .slice none 0 0]) := Bx.new wn15 _ [.slice none 0 0, .slice none 0 0, .slice none 0 0]
          replace O4 := Lib.hid (own_bv O4.out hal)
          replace O3 := Lib.hid (own_bv O3.out hal)
          have HG3 : Hid (T ≤ wn15.heap.size) := Nat.le_trans (Nat.le_of_eq HT.out.symm) BB.out.size
          replace BB := Lib.hid (BB.out.trans (hal.mono BB.out.size))
          clear hal
          obtain ⟨g3, hg3⟩ : ∃ g, wn15.heap.size = g := ⟨_, rfl⟩
          rw [hg3] at Z3 HG3 ⊢
          clear hg3
          generalize wn15.alloc (.cells #[.slice none 0 0, .slice none 0 0, .slice none 0 0] 26) = wn19 at *
          have NW := Lib.hid (RC.out.newsTo BB.out)
          refine wpAnyH_ready (rs := [7]) (by kernel_rfl) (by simp) ?_
          refine AllReadyH.cons rfl (fun K hK => ?_) AllReadyH.nil
          refine (step_pushV vtC rfl _ _ rfl rfl rfl O4.out NW.out.1 NW.out.2 (chsV_one _) (Nat.le_trans (Nat.le_of_eq HT.out.symm) BB.out.size) (by have := HNC.out; omega) ?_)
          intro v7 wn20 hown hk hv
          rw [Nat.zero_add, List.nil_append] at hown
          obtain ⟨A7, c7, rfl⟩ := own_slV hown
          have BK := hk.below BB.out BB.out.size (fun k hk => Nat.le_trans (Nat.le_of_eq HT.out) (O4.out.lt k hk).1)
          refine hK.out _ _ (SK.out _ BK) (fun hHeld => ?_)
          clear hK K
          simp only [Act.put, List.getElem_toArray, List.getElem_cons_zero, List.getElem_cons_succ, List.setIfInBounds_toArray, List.set_cons_zero, List.set_cons_succ]
          have O7 := Lib.hid hown
          replace O3 := Lib.hid (own_kv O3.out hk (fun b hb hh => own_ne O3.out O4.out (by decide) hb hh))
          replace Z3 := Lib.hid (Z3.out.kept hk (cpb_ne O4.out Z3.out (by decide)))
          replace BB := Lib.hid BK
          clear hown hk hv BK NW O4
          refine wpAnyH_take (i := 8) (v := ?_) rfl (by kernel_rfl) (by kernel_rfl) (by kernel_rfl) (fun _ _ _ h => h) (Or.inl ⟨by rfl, ?_⟩) (by assumption) ?_
          rotate_left 1
          · intro w hSw; (try dsimp only at hSw); go_simp; (try with_reducible rfl)
          simp only [Act.put, List.getElem_toArray, List.getElem_cons_zero, List.getElem_cons_succ, List.setIfInBounds_toArray, List.set_cons_zero, List.set_cons_succ]
          have z0 := Z3.out.at (j := 0) rfl
          have z1 := Z3.out.at (j := 1) rfl
          have z2 := Z3.out.at (j := 2) rfl
          have f0 := Z3.out.fz 0
          have f1 := Z3.out.fz 1
          have f2 := Z3.out.fz 2
          have hK := Keep.sets (R := (· = g3)) rfl [.slice A3 v.nw c3, .slice none 0 0, .slice A7 v.nc c7] 0 (Keep.refl _ wn20)
          have BS := below_sets (Nat.le_trans (Nat.le_of_eq HT.out) HG3.out) [.slice A3 v.nw c3, .slice none 0 0, .slice A7 v.nc c7] 0 BB.out
          have N3 := cpb_ne O3.out Z3.out (by decide)
          have N7 := cpb_ne O7.out Z3.out (by decide)
          have P3 := Z3.out.sets [.slice A3 v.nw c3, .slice none 0 0, .slice A7 v.nc c7] rfl
          have O3' := own_kv O3.out hK (fun b hb hh => N3 (hh ▸ hb))
          have O7' := own_kv O7.out hK (fun b hb hh => N7 (hh ▸ hb))
          refine wpAnyH_ready (rs := [10]) (by kernel_rfl) (by simp) ?_
          refine AllReadyH.cons rfl (fun K hK => ?_) AllReadyH.nil
          go_simp
          refine hK.out _ _ (SK.out _ BS) (fun hHeld => ?_)
          clear hK K
          refine wpAnyH_done (by kernel_rfl) ?_ _
          exact REST.out g3 _ _ T c3 c7 A3 A7 _ (by have := B2.out.size; have := HT.out; omega) HG3.out P3 O3' O7' (B2.out.trans (BS.mono B2.out.size))
      · skip
        go_simp
        refine hK.out _ _ (SK.out _ (BB.out.alloc BB.out.size (.cells #[.slice none 0 0, .slice none 0 0, .slice none 0 0] 26))) (fun hHeld => ?_)
        clear hK K
        have hal := (Below.refl wn14.heap.size wn14).alloc (Nat.le_refl _) (.cells #[.slice none 0 0, .slice none 0 0, .slice none 0 0] 26)
        have Z3 : Hid (Bx (wn14.alloc (.cells #[.slice none 0 0, .slice none 0 0, .slice none 0 0] 26)) wn14.heap.size 26 [.slice none 0 0, .slice none 0 0, .slice none 0 0]) := Bx.new wn14 _ [.slice none 0 0, .slice none 0 0, .slice none 0 0]
        replace O0 := Lib.hid (own_bv O0.out hal)
        replace O4 := Lib.hid (own_bv O4.out hal)
        have HG3 : Hid (T ≤ wn14.heap.size) := Nat.le_trans (Nat.le_of_eq HT.out.symm) BB.out.size
        replace BB := Lib.hid (BB.out.trans (hal.mono BB.out.size))
        clear hal
        obtain ⟨g3, hg3⟩ : ∃ g, wn14.heap.size = g := ⟨_, rfl⟩
        rw [hg3] at Z3 HG3 ⊢
        clear hg3
        generalize wn14.alloc (.cells #[.slice none 0 0, .slice none 0 0, .slice none 0 0] 26) = wn22 at *
        have NW := Lib.hid (RW.out.newsTo BB.out)
        refine wpAnyH_ready (rs := [3]) (by kernel_rfl) (by simp) ?_
        refine AllReadyH.cons rfl (fun K hK => ?_) AllReadyH.nil
        refine (step_pushV vtW rfl _ _ rfl rfl rfl O0.out NW.out.1 NW.out.2 (winsV_one _) (Nat.le_trans (Nat.le_of_eq HT.out.symm) BB.out.size) (by have := HNW.out; omega) ?_)
        intro v3 wn23 hown hk hv
        rw [Nat.zero_add, List.nil_append] at hown
        obtain ⟨A3, c3, rfl⟩ := own_slV hown
        have BK := hk.below BB.out BB.out.size (fun k hk => Nat.le_trans (Nat.le_of_eq HT.out) (O0.out.lt k hk).1)
        refine hK.out _ _ (SK.out _ BK) (fun hHeld => ?_)
        clear hK K
        simp only [Act.put, List.getElem_toArray, List.getElem_cons_zero, List.getElem_cons_succ, List.setIfInBounds_toArray, List.set_cons_zero, List.set_cons_succ]
        have O3 := Lib.hid hown
        replace O4 := Lib.hid (own_kv O4.out hk (fun b hb hh => own_ne O4.out O0.out (by decide) hb hh))
        replace Z3 := Lib.hid (Z3.out.kept hk (cpb_ne O0.out Z3.out (by decide)))
        replace BB := Lib.hid BK
        clear hown hk hv BK NW O0
        have NW := Lib.hid (RC.out.newsTo BB.out)
        refine wpAnyH_ready (rs := [7]) (by kernel_rfl) (by simp) ?_
        refine AllReadyH.cons rfl (fun K hK => ?_) AllReadyH.nil
        refine (step_pushV vtC rfl _ _ rfl rfl rfl O4.out NW.out.1 NW.out.2 (chsV_one _) (Nat.le_trans (Nat.le_of_eq HT.out.symm) BB.out.size) (by have := HNC.out; omega) ?_)
        intro v7 wn24 hown hk hv
        rw [Nat.zero_add, List.nil_append] at hown
        obtain ⟨A7, c7, rfl⟩ := own_slV hown
        have BK := hk.below BB.out BB.out.size (fun k hk => Nat.le_trans (Nat.le_of_eq HT.out) (O4.out.lt k hk).1)
        refine hK.out _ _ (SK.out _ BK) (fun hHeld => ?_)
        clear hK K
        simp only [Act.put, List.getElem_toArray, List.getElem_cons_zero, List.getElem_cons_succ, List.setIfInBounds_toArray, List.set_cons_zero, List.set_cons_succ]
        have O7 := Lib.hid hown
        replace O3 := Lib.hid (own_kv O3.out hk (fun b hb hh => own_ne O3.out O4.out (by decide) hb hh))
        replace Z3 := Lib.hid (Z3.out.kept hk (cpb_ne O4.out Z3.out (by decide)))
        replace BB := Lib.hid BK
        clear hown hk hv BK NW O4
        refine wpAnyH_take (i := 8) (v := ?_) rfl (by kernel_rfl) (by kernel_rfl) (by kernel_rfl) (fun _ _ _ h => h) (Or.inl ⟨by rfl, ?_⟩) (by assumption) ?_
        rotate_left 1
        · intro w hSw; (try dsimp only at hSw); go_simp; (try with_reducible rfl)
        simp only [Act.put, List.getElem_toArray, List.getElem_cons_zero, List.getElem_cons_succ, List.setIfInBounds_toArray, List.set_cons_zero, List.set_cons_succ]
        have z0 := Z3.out.at (j := 0) rfl
        have z1 := Z3.out.at (j := 1) rfl
        have z2 := Z3.out.at (j := 2) rfl
        have f0 := Z3.out.fz 0
        have f1 := Z3.out.fz 1
        have f2 := Z3.out.fz 2
        have hK := Keep.sets (R := (· = g3)) rfl [.slice A3 v.nw c3, .slice none 0 0, .slice A7 v.nc c7] 0 (Keep.refl _ wn24)
        have BS := below_sets (Nat.le_trans (Nat.le_of_eq HT.out) HG3.out) [.slice A3 v.nw c3, .slice none 0 0, .slice A7 v.nc c7] 0 BB.out
        have N3 := cpb_ne O3.out Z3.out (by decide)
        have N7 := cpb_ne O7.out Z3.out (by decide)
        have P3 := Z3.out.sets [.slice A3 v.nw c3, .slice none 0 0, .slice A7 v.nc c7] rfl
        have O3' := own_kv O3.out hK (fun b hb hh => N3 (hh ▸ hb))
        have O7' := own_kv O7.out hK (fun b hb hh => N7 (hh ▸ hb))
        refine wpAnyH_ready (rs := [10]) (by kernel_rfl) (by simp) ?_
        refine AllReadyH.cons rfl (fun K hK => ?_) AllReadyH.nil
        go_simp
        refine hK.out _ _ (SK.out _ BS) (fun hHeld => ?_)
        clear hK K
        refine wpAnyH_done (by kernel_rfl) ?_ _
        exact REST.out g3 _ _ T c3 c7 A3 A7 _ (by have := B2.out.size; have := HT.out; omega) HG3.out P3 O3' O7' (B2.out.trans (BS.mono B2.out.size))
    · skip
      go_simp
      refine hK.out _ _ (SK.out _ (BB.out.alloc BB.out.size (.cells #[.slice none 0 0, .slice none 0 0, .slice none 0 0] 26))) (fun hHeld => ?_)
      clear hK K
      have hal := (Below.refl wn1.heap.size wn1).alloc (Nat.le_refl _) (.cells #[.slice none 0 0, .slice none 0 0, .slice none 0 0] 26)
      have Z3 : Hid (Bx (wn1.alloc (.cells #[.slice none 0 0, .slice none 0 0, .slice none 0 0] 26)) wn1.heap.size 26 [.slice none 0 0, .slice none 0 0, .slice none 0 0]) := Bx.new wn1 _ [.slice none 0 0, .slice none 0 0, .slice none 0 0]
      replace O0 := Lib.hid (own_bv O0.out hal)
      have HG3 : Hid (T ≤ wn1.heap.size) := Nat.le_trans (Nat.le_of_eq HT.out.symm) BB.out.size
      replace BB := Lib.hid (BB.out.trans (hal.mono BB.out.size))
      clear hal
      obtain ⟨g3, hg3⟩ : ∃ g, wn1.heap.size = g := ⟨_, rfl⟩
      rw [hg3] at Z3 HG3 ⊢
      clear hg3
      generalize wn1.alloc (.cells #[.slice none 0 0, .slice none 0 0, .slice none 0 0] 26) = wn26 at *
      refine wpAnyH_ready (rs := [3, 4]) (by kernel_rfl) (by simp) ?_
      refine AllReadyH.cons rfl (fun K hK => ?_) (AllReadyH.cons rfl (fun K hK => ?_) AllReadyH.nil)
      · have NW := Lib.hid (RW.out.newsTo BB.out)
        refine (step_pushV vtW rfl _ _ rfl rfl rfl O0.out NW.out.1 NW.out.2 (winsV_one _) (Nat.le_trans (Nat.le_of_eq HT.out.symm) BB.out.size) (by have := HNW.out; omega) ?_)
        intro v3 wn27 hown hk hv
        rw [Nat.zero_add, List.nil_append] at hown
        obtain ⟨A3, c3, rfl⟩ := own_slV hown
        have BK := hk.below BB.out BB.out.size (fun k hk => Nat.le_trans (Nat.le_of_eq HT.out) (O0.out.lt k hk).1)
        refine hK.out _ _ (SK.out _ BK) (fun hHeld => ?_)
        clear hK K
        simp only [Act.put, List.getElem_toArray, List.getElem_cons_zero, List.getElem_cons_succ, List.setIfInBounds_toArray, List.set_cons_zero, List.set_cons_succ]
        have O3 := Lib.hid hown
        replace Z3 := Lib.hid (Z3.out.kept hk (cpb_ne O0.out Z3.out (by decide)))
        replace BB := Lib.hid BK
        clear hown hk hv BK NW O0
        refine wpAnyH_ready (rs := [4]) (by kernel_rfl) (by simp) ?_
        refine AllReadyH.cons rfl (fun K hK => ?_) AllReadyH.nil
        go_simp
        refine hK.out _ _ (SK.out _ (BB.out.alloc BB.out.size (.cells #[] 47))) (fun hHeld => ?_)
        clear hK K
        have hal := (Below.refl wn27.heap.size wn27).alloc (Nat.le_refl _) (.cells #[] 47)
        have O4 := Lib.hid (own_nilV (B := T) (z := 5) (Bx.new wn27 47 []) (Nat.le_trans (Nat.le_of_eq HT.out.symm) BB.out.size))
        replace O3 := Lib.hid (own_bv O3.out hal)
        replace Z3 := Lib.hid (Z3.out.to hal)
        replace BB := Lib.hid (BB.out.trans (hal.mono BB.out.size))
        clear hal
        obtain ⟨g4, hg4⟩ : ∃ g, wn27.heap.size = g := ⟨_, rfl⟩
        rw [hg4] at O4 ⊢
        clear hg4
        have e9 : ([] : List Value).toArray = #[] := rfl
        rw [e9] at *
        clear e9
        generalize wn27.alloc (.cells #[] 47) = wn28 at *
        have NW := Lib.hid (RC.out.newsTo BB.out)
        refine wpAnyH_ready (rs := [7]) (by kernel_rfl) (by simp) ?_
        refine AllReadyH.cons rfl (fun K hK => ?_) AllReadyH.nil
        refine (step_pushV vtC rfl _ _ rfl rfl rfl O4.out NW.out.1 NW.out.2 (chsV_one _) (Nat.le_trans (Nat.le_of_eq HT.out.symm) BB.out.size) (by have := HNC.out; omega) ?_)
        intro v7 wn29 hown hk hv
        rw [Nat.zero_add, List.nil_append] at hown
        obtain ⟨A7, c7, rfl⟩ := own_slV hown
        have BK := hk.below BB.out BB.out.size (fun k hk => Nat.le_trans (Nat.le_of_eq HT.out) (O4.out.lt k hk).1)
        refine hK.out _ _ (SK.out _ BK) (fun hHeld => ?_)
        clear hK K
        simp only [Act.put, List.getElem_toArray, List.getElem_cons_zero, List.getElem_cons_succ, List.setIfInBounds_toArray, List.set_cons_zero, List.set_cons_succ]
        have O7 := Lib.hid hown
        replace O3 := Lib.hid (own_kv O3.out hk (fun b hb hh => own_ne O3.out O4.out (by decide) hb hh))
        replace Z3 := Lib.hid (Z3.out.kept hk (cpb_ne O4.out Z3.out (by decide)))
        replace BB := Lib.hid BK
        clear hown hk hv BK NW O4
        refine wpAnyH_take (i := 8) (v := ?_) rfl (by kernel_rfl) (by kernel_rfl) (by kernel_rfl) (fun _ _ _ h => h) (Or.inl ⟨by rfl, ?_⟩) (by assumption) ?_
        rotate_left 1
        · intro w hSw; (try dsimp only at hSw); go_simp; (try with_reducible rfl)
        simp only [Act.put, List.getElem_toArray, List.getElem_cons_zero, List.getElem_cons_succ, List.setIfInBounds_toArray, List.set_cons_zero, List.set_cons_succ]
        have z0 := Z3.out.at (j := 0) rfl
        have z1 := Z3.out.at (j := 1) rfl
        have z2 := Z3.out.at (j := 2) rfl
        have f0 := Z3.out.fz 0
        have f1 := Z3.out.fz 1
        have f2 := Z3.out.fz 2
        have hK := Keep.sets (R := (· = g3)) rfl [.slice A3 v.nw c3, .slice none 0 0, .slice A7 v.nc c7] 0 (Keep.refl _ wn29)
        have BS := below_sets (Nat.le_trans (Nat.le_of_eq HT.out) HG3.out) [.slice A3 v.nw c3, .slice none 0 0, .slice A7 v.nc c7] 0 BB.out
        have N3 := cpb_ne O3.out Z3.out (by decide)
        have N7 := cpb_ne O7.out Z3.out (by decide)
        have P3 := Z3.out.sets [.slice A3 v.nw c3, .slice none 0 0, .slice A7 v.nc c7] rfl
        have O3' := own_kv O3.out hK (fun b hb hh => N3 (hh ▸ hb))
        have O7' := own_kv O7.out hK (fun b hb hh => N7 (hh ▸ hb))
        refine wpAnyH_ready (rs := [10]) (by kernel_rfl) (by simp) ?_
        refine AllReadyH.cons rfl (fun K hK => ?_) AllReadyH.nil
        go_simp
        refine hK.out _ _ (SK.out _ BS) (fun hHeld => ?_)
        clear hK K
        refine wpAnyH_done (by kernel_rfl) ?_ _
        exact REST.out g3 _ _ T c3 c7 A3 A7 _ (by have := B2.out.size; have := HT.out; omega) HG3.out P3 O3' O7' (B2.out.trans (BS.mono B2.out.size))
      · skip
        go_simp
        refine hK.out _ _ (SK.out _ (BB.out.alloc BB.out.size (.cells #[] 47))) (fun hHeld => ?_)
        clear hK K
        have hal := (Below.refl wn26.heap.size wn26).alloc (Nat.le_refl _) (.cells #[] 47)
        have O4 := Lib.hid (own_nilV (B := T) (z := 5) (Bx.new wn26 47 []) (Nat.le_trans (Nat.le_of_eq HT.out.symm) BB.out.size))
        replace O0 := Lib.hid (own_bv O0.out hal)
        replace Z3 := Lib.hid (Z3.out.to hal)
        replace BB := Lib.hid (BB.out.trans (hal.mono BB.out.size))
        clear hal
        obtain ⟨g4, hg4⟩ : ∃ g, wn26.heap.size = g := ⟨_, rfl⟩
        rw [hg4] at O4 ⊢
        clear hg4
        have e9 : ([] : List Value).toArray = #[] := rfl
        rw [e9] at *
        clear e9
        generalize wn26.alloc (.cells #[] 47) = wn31 at *
        have NW := Lib.hid (RW.out.newsTo BB.out)
        refine wpAnyH_ready (rs := [3]) (by kernel_rfl) (by simp) ?_
        refine AllReadyH.cons rfl (fun K hK => ?_) AllReadyH.nil
        refine (step_pushV vtW rfl _ _ rfl rfl rfl O0.out NW.out.1 NW.out.2 (winsV_one _) (Nat.le_trans (Nat.le_of_eq HT.out.symm) BB.out.size) (by have := HNW.out; omega) ?_)
        intro v3 wn32 hown hk hv
        rw [Nat.zero_add, List.nil_append] at hown
        obtain ⟨A3, c3, rfl⟩ := own_slV hown
        have BK := hk.below BB.out BB.out.size (fun k hk => Nat.le_trans (Nat.le_of_eq HT.out) (O0.out.lt k hk).1)
        refine hK.out _ _ (SK.out _ BK) (fun hHeld => ?_)
        clear hK K
        simp only [Act.put, List.getElem_toArray, List.getElem_cons_zero, List.getElem_cons_succ, List.setIfInBounds_toArray, List.set_cons_zero, List.set_cons_succ]
        have O3 := Lib.hid hown
        replace O4 := Lib.hid (own_kv O4.out hk (fun b hb hh => own_ne O4.out O0.out (by decide) hb hh))
        replace Z3 := Lib.hid (Z3.out.kept hk (cpb_ne O0.out Z3.out (by decide)))
        replace BB := Lib.hid BK
        clear hown hk hv BK NW O0
        have NW := Lib.hid (RC.out.newsTo BB.out)
        refine wpAnyH_ready (rs := [7]) (by kernel_rfl) (by simp) ?_
        refine AllReadyH.cons rfl (fun K hK => ?_) AllReadyH.nil
        refine (step_pushV vtC rfl _ _ rfl rfl rfl O4.out NW.out.1 NW.out.2 (chsV_one _) (Nat.le_trans (Nat.le_of_eq HT.out.symm) BB.out.size) (by have := HNC.out; omega) ?_)
        intro v7 wn33 hown hk hv
        rw [Nat.zero_add, List.nil_append] at hown
        obtain ⟨A7, c7, rfl⟩ := own_slV hown
        have BK := hk.below BB.out BB.out.size (fun k hk => Nat.le_trans (Nat.le_of_eq HT.out) (O4.out.lt k hk).1)
        refine hK.out _ _ (SK.out _ BK) (fun hHeld => ?_)
        clear hK K
        simp only [Act.put, List.getElem_toArray, List.getElem_cons_zero, List.getElem_cons_succ, List.setIfInBounds_toArray, List.set_cons_zero, List.set_cons_succ]
        have O7 := Lib.hid hown
        replace O3 := Lib.hid (own_kv O3.out hk (fun b hb hh => own_ne O3.out O4.out (by decide) hb hh))
        replace Z3 := Lib.hid (Z3.out.kept hk (cpb_ne O4.out Z3.out (by decide)))
        replace BB := Lib.hid BK
        clear hown hk hv BK NW O4
        refine wpAnyH_take (i := 8) (v := ?_) rfl (by kernel_rfl) (by kernel_rfl) (by kernel_rfl) (fun _ _ _ h => h) (Or.inl ⟨by rfl, ?_⟩) (by assumption) ?_
        rotate_left 1
        · intro w hSw; (try dsimp only at hSw); go_simp; (try with_reducible rfl)
        simp only [Act.put, List.getElem_toArray, List.getElem_cons_zero, List.getElem_cons_succ, List.setIfInBounds_toArray, List.set_cons_zero, List.set_cons_succ]
        have z0 := Z3.out.at (j := 0) rfl
        have z1 := Z3.out.at (j := 1) rfl
        have z2 := Z3.out.at (j := 2) rfl
        have f0 := Z3.out.fz 0
        have f1 := Z3.out.fz 1
        have f2 := Z3.out.fz 2
        have hK := Keep.sets (R := (· = g3)) rfl [.slice A3 v.nw c3, .slice none 0 0, .slice A7 v.nc c7] 0 (Keep.refl _ wn33)
        have BS := below_sets (Nat.le_trans (Nat.le_of_eq HT.out) HG3.out) [.slice A3 v.nw c3, .slice none 0 0, .slice A7 v.nc c7] 0 BB.out
        have N3 := cpb_ne O3.out Z3.out (by decide)
        have N7 := cpb_ne O7.out Z3.out (by decide)
        have P3 := Z3.out.sets [.slice A3 v.nw c3, .slice none 0 0, .slice A7 v.nc c7] rfl
        have O3' := own_kv O3.out hK (fun b hb hh => N3 (hh ▸ hb))
        have O7' := own_kv O7.out hK (fun b hb hh => N7 (hh ▸ hb))
        refine wpAnyH_ready (rs := [10]) (by kernel_rfl) (by simp) ?_
        refine AllReadyH.cons rfl (fun K hK => ?_) AllReadyH.nil
        go_simp
        refine hK.out _ _ (SK.out _ BS) (fun hHeld => ?_)
        clear hK K
        refine wpAnyH_done (by kernel_rfl) ?_ _
        exact REST.out g3 _ _ T c3 c7 A3 A7 _ (by have := B2.out.size; have := HT.out; omega) HG3.out P3 O3' O7' (B2.out.trans (BS.mono B2.out.size))
  · skip
    go_simp
    refine hK.out _ _ (SK.out _ (BB.out.alloc BB.out.size (.cells #[] 47))) (fun hHeld => ?_)
    clear hK K
    have hal := (Below.refl wd.heap.size wd).alloc (Nat.le_refl _) (.cells #[] 47)
    have O4 := Lib.hid (own_nilV (B := T) (z := 5) (Bx.new wd 47 []) (Nat.le_trans (Nat.le_of_eq HT.out.symm) BB.out.size))
    replace BB := Lib.hid (BB.out.trans (hal.mono BB.out.size))
    clear hal
    obtain ⟨g4, hg4⟩ : ∃ g, wd.heap.size = g := ⟨_, rfl⟩
    rw [hg4] at O4 ⊢
    clear hg4
    have e9 : ([] : List Value).toArray = #[] := rfl
    rw [e9] at *
    clear e9
    generalize wd.alloc (.cells #[] 47) = wn35 at *
    refine wpAnyH_ready (rs := [0, 9]) (by kernel_rfl) (by simp) ?_
    refine AllReadyH.cons rfl (fun K hK => ?_) (AllReadyH.cons rfl (fun K hK => ?_) AllReadyH.nil)
    · skip
      go_simp
      refine hK.out _ _ (SK.out _ (BB.out.alloc BB.out.size (.cells #[] 59))) (fun hHeld => ?_)
      clear hK K
      have hal := (Below.refl wn35.heap.size wn35).alloc (Nat.le_refl _) (.cells #[] 59)
      have O0 := Lib.hid (own_nilV (B := T) (z := 2) (Bx.new wn35 59 []) (Nat.le_trans (Nat.le_of_eq HT.out.symm) BB.out.size))
      replace O4 := Lib.hid (own_bv O4.out hal)
      replace BB := Lib.hid (BB.out.trans (hal.mono BB.out.size))
      clear hal
      obtain ⟨g0, hg0⟩ : ∃ g, wn35.heap.size = g := ⟨_, rfl⟩
      rw [hg0] at O0 ⊢
      clear hg0
      have e9 : ([] : List Value).toArray = #[] := rfl
      rw [e9] at *
      clear e9
      generalize wn35.alloc (.cells #[] 59) = wn36 at *
      refine wpAnyH_ready (rs := [3, 9]) (by kernel_rfl) (by simp) ?_
      refine AllReadyH.cons rfl (fun K hK => ?_) (AllReadyH.cons rfl (fun K hK => ?_) AllReadyH.nil)
      · have NW := Lib.hid (RW.out.newsTo BB.out)
        refine (step_pushV vtW rfl _ _ rfl rfl rfl O0.out NW.out.1 NW.out.2 (winsV_one _) (Nat.le_trans (Nat.le_of_eq HT.out.symm) BB.out.size) (by have := HNW.out; omega) ?_)
        intro v3 wn37 hown hk hv
        rw [Nat.zero_add, List.nil_append] at hown
        obtain ⟨A3, c3, rfl⟩ := own_slV hown
        have BK := hk.below BB.out BB.out.size (fun k hk => Nat.le_trans (Nat.le_of_eq HT.out) (O0.out.lt k hk).1)
        refine hK.out _ _ (SK.out _ BK) (fun hHeld => ?_)
        clear hK K
        simp only [Act.put, List.getElem_toArray, List.getElem_cons_zero, List.getElem_cons_succ, List.setIfInBounds_toArray, List.set_cons_zero, List.set_cons_succ]
        have O3 := Lib.hid hown
        replace O4 := Lib.hid (own_kv O4.out hk (fun b hb hh => own_ne O4.out O0.out (by decide) hb hh))
        replace BB := Lib.hid BK
        clear hown hk hv BK NW O0
        refine wpAnyH_ready (rs := [7, 9]) (by kernel_rfl) (by simp) ?_
        refine AllReadyH.cons rfl (fun K hK => ?_) (AllReadyH.cons rfl (fun K hK => ?_) AllReadyH.nil)
        · have NW := Lib.hid (RC.out.newsTo BB.out)
          refine (step_pushV vtC rfl _ _ rfl rfl rfl O4.out NW.out.1 NW.out.2 (chsV_one _) (Nat.le_trans (Nat.le_of_eq HT.out.symm) BB.out.size) (by have := HNC.out; omega) ?_)
          intro v7 wn38 hown hk hv
          rw [Nat.zero_add, List.nil_append] at hown
          obtain ⟨A7, c7, rfl⟩ := own_slV hown
          have BK := hk.below BB.out BB.out.size (fun k hk => Nat.le_trans (Nat.le_of_eq HT.out) (O4.out.lt k hk).1)
          refine hK.out _ _ (SK.out _ BK) (fun hHeld => ?_)
          clear hK K
          simp only [Act.put, List.getElem_toArray, List.getElem_cons_zero, List.getElem_cons_succ, List.setIfInBounds_toArray, List.set_cons_zero, List.set_cons_succ]
          have O7 := Lib.hid hown
          replace O3 := Lib.hid (own_kv O3.out hk (fun b hb hh => own_ne O3.out O4.out (by decide) hb hh))
          replace BB := Lib.hid BK
          clear hown hk hv BK NW O4
          refine wpAnyH_take (i := 8) (v := ?_) rfl (by kernel_rfl) (by kernel_rfl) (by kernel_rfl) (fun _ _ _ h => h) (Or.inl ⟨by rfl, ?_⟩) (by assumption) ?_
          rotate_left 1
          · intro w hSw; (try dsimp only at hSw); go_simp; (try with_reducible rfl)
          simp only [Act.put, List.getElem_toArray, List.getElem_cons_zero, List.getElem_cons_succ, List.setIfInBounds_toArray, List.set_cons_zero, List.set_cons_succ]
          refine wpAnyH_ready (rs := [9]) (by kernel_rfl) (by simp) ?_
          refine AllReadyH.cons rfl (fun K hK => ?_) AllReadyH.nil
          go_simp
          refine hK.out _ _ (SK.out _ (BB.out.alloc BB.out.size (.cells #[.slice none 0 0, .slice none 0 0, .slice none 0 0] 26))) (fun hHeld => ?_)
          clear hK K
          have hal := (Below.refl wn38.heap.size wn38).alloc (Nat.le_refl _) (.cells #[.slice none 0 0, .slice none 0 0, .slice none 0 0] 26)
          have Z3 : Hid (Bx (wn38.alloc (.cells #[.slice none 0 0, .slice none 0 0, .slice none 0 0] 26)) wn38.heap.size 26 [.slice none 0 0, .slice none 0 0, .slice none 0 0]) := Bx.new wn38 _ [.slice none 0 0, .slice none 0 0, .slice none 0 0]
          replace O3 := Lib.hid (own_bv O3.out hal)
          replace O7 := Lib.hid (own_bv O7.out hal)
          have HG3 : Hid (T ≤ wn38.heap.size) := Nat.le_trans (Nat.le_of_eq HT.out.symm) BB.out.size
          replace BB := Lib.hid (BB.out.trans (hal.mono BB.out.size))
          clear hal
          obtain ⟨g3, hg3⟩ : ∃ g, wn38.heap.size = g := ⟨_, rfl⟩
          rw [hg3] at Z3 HG3 ⊢
          clear hg3
          generalize wn38.alloc (.cells #[.slice none 0 0, .slice none 0 0, .slice none 0 0] 26) = wn39 at *
          have z0 := Z3.out.at (j := 0) rfl
          have z1 := Z3.out.at (j := 1) rfl
          have z2 := Z3.out.at (j := 2) rfl
          have f0 := Z3.out.fz 0
          have f1 := Z3.out.fz 1
          have f2 := Z3.out.fz 2
          have hK := Keep.sets (R := (· = g3)) rfl [.slice A3 v.nw c3, .slice none 0 0, .slice A7 v.nc c7] 0 (Keep.refl _ wn39)
          have BS := below_sets (Nat.le_trans (Nat.le_of_eq HT.out) HG3.out) [.slice A3 v.nw c3, .slice none 0 0, .slice A7 v.nc c7] 0 BB.out
          have N3 := cpb_ne O3.out Z3.out (by decide)
          have N7 := cpb_ne O7.out Z3.out (by decide)
          have P3 := Z3.out.sets [.slice A3 v.nw c3, .slice none 0 0, .slice A7 v.nc c7] rfl
          have O3' := own_kv O3.out hK (fun b hb hh => N3 (hh ▸ hb))
          have O7' := own_kv O7.out hK (fun b hb hh => N7 (hh ▸ hb))
          refine wpAnyH_ready (rs := [10]) (by kernel_rfl) (by simp) ?_
          refine AllReadyH.cons rfl (fun K hK => ?_) AllReadyH.nil
          go_simp
          refine hK.out _ _ (SK.out _ BS) (fun hHeld => ?_)
          clear hK K
          refine wpAnyH_done (by kernel_rfl) ?_ _
          exact REST.out g3 _ _ T c3 c7 A3 A7 _ (by have := B2.out.size; have := HT.out; omega) HG3.out P3 O3' O7' (B2.out.trans (BS.mono B2.out.size))
        · skip
          go_simp
          refine hK.out _ _ (SK.out _ (BB.out.alloc BB.out.size (.cells #[.slice none 0 0, .slice none 0 0, .slice none 0 0] 26))) (fun hHeld => ?_)
          clear hK K
          have hal := (Below.refl wn37.heap.size wn37).alloc (Nat.le_refl _) (.cells #[.slice none 0 0, .slice none 0 0, .slice none 0 0] 26)
          have Z3 : Hid (Bx (wn37.alloc (.cells #[.slice none 0 0, .slice none 0 0, .slice none 0 0] 26)) wn37.heap.size 26 [.slice none 0 0, .slice none 0 0, .slice none 0 0]) := Bx.new wn37 _ [.slice none 0 0, .slice none 0 0, .slice none 0 0]
          replace O4 := Lib.hid (own_bv O4.out hal)
          replace O3 := Lib.hid (own_bv O3.out hal)
          have HG3 : Hid (T ≤ wn37.heap.size) := Nat.le_trans (Nat.le_of_eq HT.out.symm) BB.out.size
          replace BB := Lib.hid (BB.out.trans (hal.mono BB.out.size))
          clear hal
          obtain ⟨g3, hg3⟩ : ∃ g, wn37.heap.size = g := ⟨_, rfl⟩
          rw [hg3] at Z3 HG3 ⊢
          clear hg3
          generalize wn37.alloc (.cells #[.slice none 0 0, .slice none 0 0, .slice none 0 0] 26) = wn41 at *
          have NW := Lib.hid (RC.out.newsTo BB.out)
          refine wpAnyH_ready (rs := [7]) (by kernel_rfl) (by simp) ?_
          refine AllReadyH.cons rfl (fun K hK => ?_) AllReadyH.nil
          refine (step_pushV vtC rfl _ _ rfl rfl rfl O4.out NW.out.1 NW.out.2 (chsV_one _) (Nat.le_trans (Nat.le_of_eq HT.out.symm) BB.out.size) (by have := HNC.out; omega) ?_)
          intro v7 wn42 hown hk hv
          rw [Nat.zero_add, List.nil_append] at hown
          obtain ⟨A7, c7, rfl⟩ := own_slV hown
          have BK := hk.below BB.out BB.out.size (fun k hk => Nat.le_trans (Nat.le_of_eq HT.out) (O4.out.lt k hk).1)
          refine hK.out _ _ (SK.out _ BK) (fun hHeld => ?_)
          clear hK K
          simp only [Act.put, List.getElem_toArray, List.getElem_cons_zero, List.getElem_cons_succ, List.setIfInBounds_toArray, List.set_cons_zero, List.set_cons_succ]
          have O7 := Lib.hid hown
          replace O3 := Lib.hid (own_kv O3.out hk (fun b hb hh => own_ne O3.out O4.out (by decide) hb hh))
          replace Z3 := Lib.hid (Z3.out.kept hk (cpb_ne O4.out Z3.out (by decide)))
          replace BB := Lib.hid BK
          clear hown hk hv BK NW O4
          refine wpAnyH_take (i := 8) (v := ?_) rfl (by kernel_rfl) (by kernel_rfl) (by kernel_rfl) (fun _ _ _ h => h) (Or.inl ⟨by rfl, ?_⟩) (by assumption) ?_
          rotate_left 1
          · intro w hSw; (try dsimp only at hSw); go_simp; (try with_reducible rfl)
          simp only [Act.put, List.getElem_toArray, List.getElem_cons_zero, List.getElem_cons_succ, List.setIfInBounds_toArray, List.set_cons_zero, List.set_cons_succ]
          have z0 := Z3.out.at (j := 0) rfl
          have z1 := Z3.out.at (j := 1) rfl
          have z2 := Z3.out.at (j := 2) rfl
          have f0 := Z3.out.fz 0
          have f1 := Z3.out.fz 1
          have f2 := Z3.out.fz 2
          have hK := Keep.sets (R := (· = g3)) rfl [.slice A3 v.nw c3, .slice none 0 0, .slice A7 v.nc c7] 0 (Keep.refl _ wn42)
          have BS := below_sets (Nat.le_trans (Nat.le_of_eq HT.out) HG3.out) [.slice A3 v.nw c3, .slice none 0 0, .slice A7 v.nc c7] 0 BB.out
          have N3 := cpb_ne O3.out Z3.out (by decide)
          have N7 := cpb_ne O7.out Z3.out (by decide)
          have P3 := Z3.out.sets [.slice A3 v.nw c3, .slice none 0 0, .slice A7 v.nc c7] rfl
          have O3' := own_kv O3.out hK (fun b hb hh => N3 (hh ▸ hb))
          have O7' := own_kv O7.out hK (fun b hb hh => N7 (hh ▸ hb))
          refine wpAnyH_ready (rs := [10]) (by kernel_rfl) (by simp) ?_
          refine AllReadyH.cons rfl (fun K hK => ?_) AllReadyH.nil
          go_simp
          refine hK.out _ _ (SK.out _ BS) (fun hHeld => ?_)
          clear hK K
          refine wpAnyH_done (by kernel_rfl) ?_ _
          exact REST.out g3 _ _ T c3 c7 A3 A7 _ (by have := B2.out.size; have := HT.out; omega) HG3.out P3 O3' O7' (B2.out.trans (BS.mono B2.out.size))
      · skip
        go_simp
        refine hK.out _ _ (SK.out _ (BB.out.alloc BB.out.size (.cells #[.slice none 0 0, .slice none 0 0, .slice none 0 0] 26))) (fun hHeld => ?_)
        clear hK K
        have hal := (Below.refl wn36.heap.size wn36).alloc (Nat.le_refl _) (.cells #[.slice none 0 0, .slice none 0 0, .slice none 0 0] 26)
        have Z3 : Hid (Bx (wn36.alloc (.cells #[.slice none 0 0, .slice none 0 0, .slice none 0 0] 26)) wn36.heap.size 26 [.slice none 0 0, .slice none 0 0, .slice none 0 0]) := Bx.new wn36 _ [.slice none 0 0, .slice none 0 0, .slice none 0 0]
        replace O0 := Lib.hid (own_bv O0.out hal)
        replace O4 := Lib.hid (own_bv O4.out hal)
        have HG3 : Hid (T ≤ wn36.heap.size) := Nat.le_trans (Nat.le_of_eq HT.out.symm) BB.out.size
        replace BB := Lib.hid (BB.out.trans (hal.mono BB.out.size))
        clear hal
        obtain ⟨g3, hg3⟩ : ∃ g, wn36.heap.size = g := ⟨_, rfl⟩
        rw [hg3] at Z3 HG3 ⊢
        clear hg3
        generalize wn36.alloc (.cells #[.slice none 0 0, .slice none 0 0, .slice none 0 0] 26) = wn44 at *
        have NW := Lib.hid (RW.out.newsTo BB.out)
        refine wpAnyH_ready (rs := [3]) (by kernel_rfl) (by simp) ?_
        refine AllReadyH.cons rfl (fun K hK => ?_) AllReadyH.nil
        refine (step_pushV vtW rfl _ _ rfl rfl rfl O0.out NW.out.1 NW.out.2 (winsV_one _) (Nat.le_trans (Nat.le_of_eq HT.out.symm) BB.out.size) (by have := HNW.out; omega) ?_)
        intro v3 wn45 hown hk hv
        rw [Nat.zero_add, List.nil_append] at hown
        obtain ⟨A3, c3, rfl⟩ := own_slV hown
        have BK := hk.below BB.out BB.out.size (fun k hk => Nat.le_trans (Nat.le_of_eq HT.out) (O0.out.lt k hk).1)
        refine hK.out _ _ (SK.out _ BK) (fun hHeld => ?_)
        clear hK K
        simp only [Act.put, List.getElem_toArray, List.getElem_cons_zero, List.getElem_cons_succ, List.setIfInBounds_toArray, List.set_cons_zero, List.set_cons_succ]
        have O3 := Lib.hid hown
        replace O4 := Lib.hid (own_kv O4.out hk (fun b hb hh => own_ne O4.out O0.out (by decide) hb hh))
        replace Z3 := Lib.hid (Z3.out.kept hk (cpb_ne O0.out Z3.out (by decide)))
        replace BB := Lib.hid BK
        clear hown hk hv BK NW O0
        have NW := Lib.hid (RC.out.newsTo BB.out)
        refine wpAnyH_ready (rs := [7]) (by kernel_rfl) (by simp) ?_
        refine AllReadyH.cons rfl (fun K hK => ?_) AllReadyH.nil
        refine (step_pushV vtC rfl _ _ rfl rfl rfl O4.out NW.out.1 NW.out.2 (chsV_one _) (Nat.le_trans (Nat.le_of_eq HT.out.symm) BB.out.size) (by have := HNC.out; omega) ?_)
        intro v7 wn46 hown hk hv
        rw [Nat.zero_add, List.nil_append] at hown
        obtain ⟨A7, c7, rfl⟩ := own_slV hown
        have BK := hk.below BB.out BB.out.size (fun k hk => Nat.le_trans (Nat.le_of_eq HT.out) (O4.out.lt k hk).1)
        refine hK.out _ _ (SK.out _ BK) (fun hHeld => ?_)
        clear hK K
        simp only [Act.put, List.getElem_toArray, List.getElem_cons_zero, List.getElem_cons_succ, List.setIfInBounds_toArray, List.set_cons_zero, List.set_cons_succ]
        have O7 := Lib.hid hown
        replace O3 := Lib.hid (own_kv O3.out hk (fun b hb hh => own_ne O3.out O4.out (by decide) hb hh))
        replace Z3 := Lib.hid (Z3.out.kept hk (cpb_ne O4.out Z3.out (by decide)))
        replace BB := Lib.hid BK
        clear hown hk hv BK NW O4
        refine wpAnyH_take (i := 8) (v := ?_) rfl (by kernel_rfl) (by kernel_rfl) (by kernel_rfl) (fun _ _ _ h => h) (Or.inl ⟨by rfl, ?_⟩) (by assumption) ?_
        rotate_left 1
        · intro w hSw; (try dsimp only at hSw); go_simp; (try with_reducible rfl)
        simp only [Act.put, List.getElem_toArray, List.getElem_cons_zero, List.getElem_cons_succ, List.setIfInBounds_toArray, List.set_cons_zero, List.set_cons_succ]
        have z0 := Z3.out.at (j := 0) rfl
        have z1 := Z3.out.at (j := 1) rfl
        have z2 := Z3.out.at (j := 2) rfl
        have f0 := Z3.out.fz 0
        have f1 := Z3.out.fz 1
        have f2 := Z3.out.fz 2
        have hK := Keep.sets (R := (· = g3)) rfl [.slice A3 v.nw c3, .slice none 0 0, .slice A7 v.nc c7] 0 (Keep.refl _ wn46)
        have BS := below_sets (Nat.le_trans (Nat.le_of_eq HT.out) HG3.out) [.slice A3 v.nw c3, .slice none 0 0, .slice A7 v.nc c7] 0 BB.out
        have N3 := cpb_ne O3.out Z3.out (by decide)
        have N7 := cpb_ne O7.out Z3.out (by decide)
        have P3 := Z3.out.sets [.slice A3 v.nw c3, .slice none 0 0, .slice A7 v.nc c7] rfl
        have O3' := own_kv O3.out hK (fun b hb hh => N3 (hh ▸ hb))
        have O7' := own_kv O7.out hK (fun b hb hh => N7 (hh ▸ hb))
        refine wpAnyH_ready (rs := [10]) (by kernel_rfl) (by simp) ?_
        refine AllReadyH.cons rfl (fun K hK => ?_) AllReadyH.nil
        go_simp
        refine hK.out _ _ (SK.out _ BS) (fun hHeld => ?_)
        clear hK K
        refine wpAnyH_done (by kernel_rfl) ?_ _
        exact REST.out g3 _ _ T c3 c7 A3 A7 _ (by have := B2.out.size; have := HT.out; omega) HG3.out P3 O3' O7' (B2.out.trans (BS.mono B2.out.size))
    · skip
      go_simp
      refine hK.out _ _ (SK.out _ (BB.out.alloc BB.out.size (.cells #[.slice none 0 0, .slice none 0 0, .slice none 0 0] 26))) (fun hHeld => ?_)
      clear hK K
      have hal := (Below.refl wn35.heap.size wn35).alloc (Nat.le_refl _) (.cells #[.slice none 0 0, .slice none 0 0, .slice none 0 0] 26)
      have Z3 : Hid (Bx (wn35.alloc (.cells #[.slice none 0 0, .slice none 0 0, .slice none 0 0] 26)) wn35.heap.size 26 [.slice none 0 0, .slice none 0 0, .slice none 0 0]) := Bx.new wn35 _ [.slice none 0 0, .slice none 0 0, .slice none 0 0]
      replace O4 := Lib.hid (own_bv O4.out hal)
      have HG3 : Hid (T ≤ wn35.heap.size) := Nat.le_trans (Nat.le_of_eq HT.out.symm) BB.out.size
      replace BB := Lib.hid (BB.out.trans (hal.mono BB.out.size))
      clear hal
      obtain ⟨g3, hg3⟩ : ∃ g, wn35.heap.size = g := ⟨_, rfl⟩
      rw [hg3] at Z3 HG3 ⊢
      clear hg3
      generalize wn35.alloc (.cells #[.slice none 0 0, .slice none 0 0, .slice none 0 0] 26) = wn48 at *
      refine wpAnyH_ready (rs := [0]) (by kernel_rfl) (by simp) ?_
      refine AllReadyH.cons rfl (fun K hK => ?_) AllReadyH.nil
      go_simp
      refine hK.out _ _ (SK.out _ (BB.out.alloc BB.out.size (.cells #[] 59))) (fun hHeld => ?_)
      clear hK K
      have hal := (Below.refl wn48.heap.size wn48).alloc (Nat.le_refl _) (.cells #[] 59)
      have O0 := Lib.hid (own_nilV (B := T) (z := 2) (Bx.new wn48 59 []) (Nat.le_trans (Nat.le_of_eq HT.out.symm) BB.out.size))
      replace O4 := Lib.hid (own_bv O4.out hal)
      replace Z3 := Lib.hid (Z3.out.to hal)
      replace BB := Lib.hid (BB.out.trans (hal.mono BB.out.size))
      clear hal
      obtain ⟨g0, hg0⟩ : ∃ g, wn48.heap.size = g := ⟨_, rfl⟩
      rw [hg0] at O0 ⊢
      clear hg0
      have e9 : ([] : List Value).toArray = #[] := rfl
      rw [e9] at *
      clear e9
      generalize wn48.alloc (.cells #[] 59) = wn49 at *
      have NW := Lib.hid (RW.out.newsTo BB.out)
      refine wpAnyH_ready (rs := [3]) (by kernel_rfl) (by simp) ?_
      refine AllReadyH.cons rfl (fun K hK => ?_) AllReadyH.nil
      refine (step_pushV vtW rfl _ _ rfl rfl rfl O0.out NW.out.1 NW.out.2 (winsV_one _) (Nat.le_trans (Nat.le_of_eq HT.out.symm) BB.out.size) (by have := HNW.out; omega) ?_)
      intro v3 wn50 hown hk hv
      rw [Nat.zero_add, List.nil_append] at hown
      obtain ⟨A3, c3, rfl⟩ := own_slV hown
      have BK := hk.below BB.out BB.out.size (fun k hk => Nat.le_trans (Nat.le_of_eq HT.out) (O0.out.lt k hk).1)
      refine hK.out _ _ (SK.out _ BK) (fun hHeld => ?_)
      clear hK K
      simp only [Act.put, List.getElem_toArray, List.getElem_cons_zero, List.getElem_cons_succ, List.setIfInBounds_toArray, List.set_cons_zero, List.set_cons_succ]
      have O3 := Lib.hid hown
      replace O4 := Lib.hid (own_kv O4.out hk (fun b hb hh => own_ne O4.out O0.out (by decide) hb hh))
      replace Z3 := Lib.hid (Z3.out.kept hk (cpb_ne O0.out Z3.out (by decide)))
      replace BB := Lib.hid BK
      clear hown hk hv BK NW O0
      have NW := Lib.hid (RC.out.newsTo BB.out)
      refine wpAnyH_ready (rs := [7]) (by kernel_rfl) (by simp) ?_
      refine AllReadyH.cons rfl (fun K hK => ?_) AllReadyH.nil
      refine (step_pushV vtC rfl _ _ rfl rfl rfl O4.out NW.out.1 NW.out.2 (chsV_one _) (Nat.le_trans (Nat.le_of_eq HT.out.symm) BB.out.size) (by have := HNC.out; omega) ?_)
      intro v7 wn51 hown hk hv
      rw [Nat.zero_add, List.nil_append] at hown
      obtain ⟨A7, c7, rfl⟩ := own_slV hown
      have BK := hk.below BB.out BB.out.size (fun k hk => Nat.le_trans (Nat.le_of_eq HT.out) (O4.out.lt k hk).1)
      refine hK.out _ _ (SK.out _ BK) (fun hHeld => ?_)
      clear hK K
      simp only [Act.put, List.getElem_toArray, List.getElem_cons_zero, List.getElem_cons_succ, List.setIfInBounds_toArray, List.set_cons_zero, List.set_cons_succ]
      have O7 := Lib.hid hown
      replace O3 := Lib.hid (own_kv O3.out hk (fun b hb hh => own_ne O3.out O4.out (by decide) hb hh))
      replace Z3 := Lib.hid (Z3.out.kept hk (cpb_ne O4.out Z3.out (by decide)))
      replace BB := Lib.hid BK
      clear hown hk hv BK NW O4
      refine wpAnyH_take (i := 8) (v := ?_) rfl (by kernel_rfl) (by kernel_rfl) (by kernel_rfl) (fun _ _ _ h => h) (Or.inl ⟨by rfl, ?_⟩) (by assumption) ?_
      rotate_left 1
      · intro w hSw; (try dsimp only at hSw); go_simp; (try with_reducible rfl)
      simp only [Act.put, List.getElem_toArray, List.getElem_cons_zero, List.getElem_cons_succ, List.setIfInBounds_toArray, List.set_cons_zero, List.set_cons_succ]
      have z0 := Z3.out.at (j := 0) rfl
      have z1 := Z3.out.at (j := 1) rfl
      have z2 := Z3.out.at (j := 2) rfl
      have f0 := Z3.out.fz 0
      have f1 := Z3.out.fz 1
      have f2 := Z3.out.fz 2
      have hK := Keep.sets (R := (· = g3)) rfl [.slice A3 v.nw c3, .slice none 0 0, .slice A7 v.nc c7] 0 (Keep.refl _ wn51)
      have BS := below_sets (Nat.le_trans (Nat.le_of_eq HT.out) HG3.out) [.slice A3 v.nw c3, .slice none 0 0, .slice A7 v.nc c7] 0 BB.out
      have N3 := cpb_ne O3.out Z3.out (by decide)
      have N7 := cpb_ne O7.out Z3.out (by decide)
      have P3 := Z3.out.sets [.slice A3 v.nw c3, .slice none 0 0, .slice A7 v.nc c7] rfl
      have O3' := own_kv O3.out hK (fun b hb hh => N3 (hh ▸ hb))
      have O7' := own_kv O7.out hK (fun b hb hh => N7 (hh ▸ hb))
      refine wpAnyH_ready (rs := [10]) (by kernel_rfl) (by simp) ?_
      refine AllReadyH.cons rfl (fun K hK => ?_) AllReadyH.nil
      go_simp
      refine hK.out _ _ (SK.out _ BS) (fun hHeld => ?_)
      clear hK K
      refine wpAnyH_done (by kernel_rfl) ?_ _
      exact REST.out g3 _ _ T c3 c7 A3 A7 _ (by have := B2.out.size; have := HT.out; omega) HG3.out P3 O3' O7' (B2.out.trans (BS.mono B2.out.size))
  · skip
    go_simp
    refine hK.out _ _ (SK.out _ (BB.out.alloc BB.out.size (.cells #[.slice none 0 0, .slice none 0 0, .slice none 0 0] 26))) (fun hHeld => ?_)
    clear hK K
    have hal := (Below.refl wd.heap.size wd).alloc (Nat.le_refl _) (.cells #[.slice none 0 0, .slice none 0 0, .slice none 0 0] 26)
    have Z3 : Hid (Bx (wd.alloc (.cells #[.slice none 0 0, .slice none 0 0, .slice none 0 0] 26)) wd.heap.size 26 [.slice none 0 0, .slice none 0 0, .slice none 0 0]) := Bx.new wd _ [.slice none 0 0, .slice none 0 0, .slice none 0 0]
    have HG3 : Hid (T ≤ wd.heap.size) := Nat.le_trans (Nat.le_of_eq HT.out.symm) BB.out.size
    replace BB := Lib.hid (BB.out.trans (hal.mono BB.out.size))
    clear hal
    obtain ⟨g3, hg3⟩ : ∃ g, wd.heap.size = g := ⟨_, rfl⟩
    rw [hg3] at Z3 HG3 ⊢
    clear hg3
    generalize wd.alloc (.cells #[.slice none 0 0, .slice none 0 0, .slice none 0 0] 26) = wn53 at *
    refine wpAnyH_ready (rs := [0, 4]) (by kernel_rfl) (by simp) ?_
    refine AllReadyH.cons rfl (fun K hK => ?_) (AllReadyH.cons rfl (fun K hK => ?_) AllReadyH.nil)
    · skip
      go_simp
      refine hK.out _ _ (SK.out _ (BB.out.alloc BB.out.size (.cells #[] 59))) (fun hHeld => ?_)
      clear hK K
      have hal := (Below.refl wn53.heap.size wn53).alloc (Nat.le_refl _) (.cells #[] 59)
      have O0 := Lib.hid (own_nilV (B := T) (z := 2) (Bx.new wn53 59 []) (Nat.le_trans (Nat.le_of_eq HT.out.symm) BB.out.size))
      replace Z3 := Lib.hid (Z3.out.to hal)
      replace BB := Lib.hid (BB.out.trans (hal.mono BB.out.size))
      clear hal
      obtain ⟨g0, hg0⟩ : ∃ g, wn53.heap.size = g := ⟨_, rfl⟩
      rw [hg0] at O0 ⊢
      clear hg0
      have e9 : ([] : List Value).toArray = #[] := rfl
      rw [e9] at *
      clear e9
      generalize wn53.alloc (.cells #[] 59) = wn54 at *
      refine wpAnyH_ready (rs := [3, 4]) (by kernel_rfl) (by simp) ?_
      refine AllReadyH.cons rfl (fun K hK => ?_) (AllReadyH.cons rfl (fun K hK => ?_) AllReadyH.nil)
      · have NW := Lib.hid (RW.out.newsTo BB.out)
        refine (step_pushV vtW rfl _ _ rfl rfl rfl O0.out NW.out.1 NW.out.2 (winsV_one _) (Nat.le_trans (Nat.le_of_eq HT.out.symm) BB.out.size) (by have := HNW.out; omega) ?_)
        intro v3 wn55 hown hk hv
        rw [Nat.zero_add, List.nil_append] at hown
        obtain ⟨A3, c3, rfl⟩ := own_slV hown
        have BK := hk.below BB.out BB.out.size (fun k hk => Nat.le_trans (Nat.le_of_eq HT.out) (O0.out.lt k hk).1)
        refine hK.out _ _ (SK.out _ BK) (fun hHeld => ?_)
        clear hK K
        simp only [Act.put, List.getElem_toArray, List.getElem_cons_zero, List.getElem_cons_succ, List.setIfInBounds_toArray, List.set_cons_zero, List.set_cons_succ]
        have O3 := Lib.hid hown
        replace Z3 := Lib.hid (Z3.out.kept hk (cpb_ne O0.out Z3.out (by decide)))
        replace BB := Lib.hid BK
        clear hown hk hv BK NW O0
        refine wpAnyH_ready (rs := [4]) (by kernel_rfl) (by simp) ?_
        refine AllReadyH.cons rfl (fun K hK => ?_) AllReadyH.nil
        go_simp
        refine hK.out _ _ (SK.out _ (BB.out.alloc BB.out.size (.cells #[] 47))) (fun hHeld => ?_)
        clear hK K
        have hal := (Below.refl wn55.heap.size wn55).alloc (Nat.le_refl _) (.cells #[] 47)
        have O4 := Lib.hid (own_nilV (B := T) (z := 5) (Bx.new wn55 47 []) (Nat.le_trans (Nat.le_of_eq HT.out.symm) BB.out.size))
        replace O3 := Lib.hid (own_bv O3.out hal)
        replace Z3 := Lib.hid (Z3.out.to hal)
        replace BB := Lib.hid (BB.out.trans (hal.mono BB.out.size))
        clear hal
        obtain ⟨g4, hg4⟩ : ∃ g, wn55.heap.size = g := ⟨_, rfl⟩
        rw [hg4] at O4 ⊢
        clear hg4
        have e9 : ([] : List Value).toArray = #[] := rfl
        rw [e9] at *
        clear e9
        generalize wn55.alloc (.cells #[] 47) = wn56 at *
        have NW := Lib.hid (RC.out.newsTo BB.out)
        refine wpAnyH_ready (rs := [7]) (by kernel_rfl) (by simp) ?_
        refine AllReadyH.cons rfl (fun K hK => ?_) AllReadyH.nil
        refine (step_pushV vtC rfl _ _ rfl rfl rfl O4.out NW.out.1 NW.out.2 (chsV_one _) (Nat.le_trans (Nat.le_of_eq HT.out.symm) BB.out.size) (by have := HNC.out; omega) ?_)
        intro v7 wn57 hown hk hv
        rw [Nat.zero_add, List.nil_append] at hown
        obtain ⟨A7, c7, rfl⟩ := own_slV hown
        have BK := hk.below BB.out BB.out.size (fun k hk => Nat.le_trans (Nat.le_of_eq HT.out) (O4.out.lt k hk).1)
        refine hK.out _ _ (SK.out _ BK) (fun hHeld => ?_)
        clear hK K
        simp only [Act.put, List.getElem_toArray, List.getElem_cons_zero, List.getElem_cons_succ, List.setIfInBounds_toArray, List.set_cons_zero, List.set_cons_succ]
        have O7 := Lib.hid hown
        replace O3 := Lib.hid (own_kv O3.out hk (fun b hb hh => own_ne O3.out O4.out (by decide) hb hh))
        replace Z3 := Lib.hid (Z3.out.kept hk (cpb_ne O4.out Z3.out (by decide)))
        replace BB := Lib.hid BK
        clear hown hk hv BK NW O4
        refine wpAnyH_take (i := 8) (v := ?_) rfl (by kernel_rfl) (by kernel_rfl) (by kernel_rfl) (fun _ _ _ h => h) (Or.inl ⟨by rfl, ?_⟩) (by assumption) ?_
        rotate_left 1
        · intro w hSw; (try dsimp only at hSw); go_simp; (try with_reducible rfl)
        simp only [Act.put, List.getElem_toArray, List.getElem_cons_zero, List.getElem_cons_succ, List.setIfInBounds_toArray, List.set_cons_zero, List.set_cons_succ]
        have z0 := Z3.out.at (j := 0) rfl
        have z1 := Z3.out.at (j := 1) rfl
        have z2 := Z3.out.at (j := 2) rfl
        have f0 := Z3.out.fz 0
        have f1 := Z3.out.fz 1
        have f2 := Z3.out.fz 2
        have hK := Keep.sets (R := (· = g3)) rfl [.slice A3 v.nw c3, .slice none 0 0, .slice A7 v.nc c7] 0 (Keep.refl _ wn57)
        have BS := below_sets (Nat.le_trans (Nat.le_of_eq HT.out) HG3.out) [.slice A3 v.nw c3, .slice none 0 0, .slice A7 v.nc c7] 0 BB.out
        have N3 := cpb_ne O3.out Z3.out (by decide)
        have N7 := cpb_ne O7.out Z3.out (by decide)
        have P3 := Z3.out.sets [.slice A3 v.nw c3, .slice none 0 0, .slice A7 v.nc c7] rfl
        have O3' := own_kv O3.out hK (fun b hb hh => N3 (hh ▸ hb))
        have O7' := own_kv O7.out hK (fun b hb hh => N7 (hh ▸ hb))
        refine wpAnyH_ready (rs := [10]) (by kernel_rfl) (by simp) ?_
        refine AllReadyH.cons rfl (fun K hK => ?_) AllReadyH.nil
        go_simp
        refine hK.out _ _ (SK.out _ BS) (fun hHeld => ?_)
        clear hK K
        refine wpAnyH_done (by kernel_rfl) ?_ _
        exact REST.out g3 _ _ T c3 c7 A3 A7 _ (by have := B2.out.size; have := HT.out; omega) HG3.out P3 O3' O7' (B2.out.trans (BS.mono B2.out.size))
      · skip
        go_simp
        refine hK.out _ _ (SK.out _ (BB.out.alloc BB.out.size (.cells #[] 47))) (fun hHeld => ?_)
        clear hK K
        have hal := (Below.refl wn54.heap.size wn54).alloc (Nat.le_refl _) (.cells #[] 47)
        have O4 := Lib.hid (own_nilV (B := T) (z := 5) (Bx.new wn54 47 []) (Nat.le_trans (Nat.le_of_eq HT.out.symm) BB.out.size))
        replace O0 := Lib.hid (own_bv O0.out hal)
        replace Z3 := Lib.hid (Z3.out.to hal)
        replace BB := Lib.hid (BB.out.trans (hal.mono BB.out.size))
        clear hal
        obtain ⟨g4, hg4⟩ : ∃ g, wn54.heap.size = g := ⟨_, rfl⟩
        rw [hg4] at O4 ⊢
        clear hg4
        have e9 : ([] : List Value).toArray = #[] := rfl
        rw [e9] at *
        clear e9
        generalize wn54.alloc (.cells #[] 47) = wn59 at *
        have NW := Lib.hid (RW.out.newsTo BB.out)
        refine wpAnyH_ready (rs := [3]) (by kernel_rfl) (by simp) ?_
        refine AllReadyH.cons rfl (fun K hK => ?_) AllReadyH.nil
        refine (step_pushV vtW rfl _ _ rfl rfl rfl O0.out NW.out.1 NW.out.2 (winsV_one _) (Nat.le_trans (Nat.le_of_eq HT.out.symm) BB.out.size) (by have := HNW.out; omega) ?_)
        intro v3 wn60 hown hk hv
        rw [Nat.zero_add, List.nil_append] at hown
        obtain ⟨A3, c3, rfl⟩ := own_slV hown
        have BK := hk.below BB.out BB.out.size (fun k hk => Nat.le_trans (Nat.le_of_eq HT.out) (O0.out.lt k hk).1)
        refine hK.out _ _ (SK.out _ BK) (fun hHeld => ?_)
        clear hK K
        simp only [Act.put, List.getElem_toArray, List.getElem_cons_zero, List.getElem_cons_succ, List.setIfInBounds_toArray, List.set_cons_zero, List.set_cons_succ]
        have O3 := Lib.hid hown
        replace O4 := Lib.hid (own_kv O4.out hk (fun b hb hh => own_ne O4.out O0.out (by decide) hb hh))
        replace Z3 := Lib.hid (Z3.out.kept hk (cpb_ne O0.out Z3.out (by decide)))
        replace BB := Lib.hid BK
        clear hown hk hv BK NW O0
        have NW := Lib.hid (RC.out.newsTo BB.out)
        refine wpAnyH_ready (rs := [7]) (by kernel_rfl) (by simp) ?_
        refine AllReadyH.cons rfl (fun K hK => ?_) AllReadyH.nil
        refine (step_pushV vtC rfl _ _ rfl rfl rfl O4.out NW.out.1 NW.out.2 (chsV_one _) (Nat.le_trans (Nat.le_of_eq HT.out.symm) BB.out.size) (by have := HNC.out; omega) ?_)
        intro v7 wn61 hown hk hv
        rw [Nat.zero_add, List.nil_append] at hown
        obtain ⟨A7, c7, rfl⟩ := own_slV hown
        have BK := hk.below BB.out BB.out.size (fun k hk => Nat.le_trans (Nat.le_of_eq HT.out) (O4.out.lt k hk).1)
        refine hK.out _ _ (SK.out _ BK) (fun hHeld => ?_)
        clear hK K
        simp only [Act.put, List.getElem_toArray, List.getElem_cons_zero, List.getElem_cons_succ, List.setIfInBounds_toArray, List.set_cons_zero, List.set_cons_succ]
        have O7 := Lib.hid hown
        replace O3 := Lib.hid (own_kv O3.out hk (fun b hb hh => own_ne O3.out O4.out (by decide) hb hh))
        replace Z3 := Lib.hid (Z3.out.kept hk (cpb_ne O4.out Z3.out (by decide)))
        replace BB := Lib.hid BK
        clear hown hk hv BK NW O4
        refine wpAnyH_take (i := 8) (v := ?_) rfl (by kernel_rfl) (by kernel_rfl) (by kernel_rfl) (fun _ _ _ h => h) (Or.inl ⟨by rfl, ?_⟩) (by assumption) ?_
        rotate_left 1
        · intro w hSw; (try dsimp only at hSw); go_simp; (try with_reducible rfl)
        simp only [Act.put, List.getElem_toArray, List.getElem_cons_zero, List.getElem_cons_succ, List.setIfInBounds_toArray, List.set_cons_zero, List.set_cons_succ]
        have z0 := Z3.out.at (j := 0) rfl
        have z1 := Z3.out.at (j := 1) rfl
        have z2 := Z3.out.at (j := 2) rfl
        have f0 := Z3.out.fz 0
        have f1 := Z3.out.fz 1
        have f2 := Z3.out.fz 2
        have hK := Keep.sets (R := (· = g3)) rfl [.slice A3 v.nw c3, .slice none 0 0, .slice A7 v.nc c7] 0 (Keep.refl _ wn61)
        have BS := below_sets (Nat.le_trans (Nat.le_of_eq HT.out) HG3.out) [.slice A3 v.nw c3, .slice none 0 0, .slice A7 v.nc c7] 0 BB.out
        have N3 := cpb_ne O3.out Z3.out (by decide)
        have N7 := cpb_ne O7.out Z3.out (by decide)
        have P3 := Z3.out.sets [.slice A3 v.nw c3, .slice none 0 0, .slice A7 v.nc c7] rfl
        have O3' := own_kv O3.out hK (fun b hb hh => N3 (hh ▸ hb))
        have O7' := own_kv O7.out hK (fun b hb hh => N7 (hh ▸ hb))
        refine wpAnyH_ready (rs := [10]) (by kernel_rfl) (by simp) ?_
        refine AllReadyH.cons rfl (fun K hK => ?_) AllReadyH.nil
        go_simp
        refine hK.out _ _ (SK.out _ BS) (fun hHeld => ?_)
        clear hK K
        refine wpAnyH_done (by kernel_rfl) ?_ _
        exact REST.out g3 _ _ T c3 c7 A3 A7 _ (by have := B2.out.size; have := HT.out; omega) HG3.out P3 O3' O7' (B2.out.trans (BS.mono B2.out.size))
    · skip
      go_simp
      refine hK.out _ _ (SK.out _ (BB.out.alloc BB.out.size (.cells #[] 47))) (fun hHeld => ?_)
      clear hK K
      have hal := (Below.refl wn53.heap.size wn53).alloc (Nat.le_refl _) (.cells #[] 47)
      have O4 := Lib.hid (own_nilV (B := T) (z := 5) (Bx.new wn53 47 []) (Nat.le_trans (Nat.le_of_eq HT.out.symm) BB.out.size))
      replace Z3 := Lib.hid (Z3.out.to hal)
      replace BB := Lib.hid (BB.out.trans (hal.mono BB.out.size))
      clear hal
      obtain ⟨g4, hg4⟩ : ∃ g, wn53.heap.size = g := ⟨_, rfl⟩
      rw [hg4] at O4 ⊢
      clear hg4
      have e9 : ([] : List Value).toArray = #[] := rfl
      rw [e9] at *
      clear e9
      generalize wn53.alloc (.cells #[] 47) = wn63 at *
      refine wpAnyH_ready (rs := [0]) (by kernel_rfl) (by simp) ?_
      refine AllReadyH.cons rfl (fun K hK => ?_) AllReadyH.nil
      go_simp
      refine hK.out _ _ (SK.out _ (BB.out.alloc BB.out.size (.cells #[] 59))) (fun hHeld => ?_)
      clear hK K
      have hal := (Below.refl wn63.heap.size wn63).alloc (Nat.le_refl _) (.cells #[] 59)
      have O0 := Lib.hid (own_nilV (B := T) (z := 2) (Bx.new wn63 59 []) (Nat.le_trans (Nat.le_of_eq HT.out.symm) BB.out.size))
      replace O4 := Lib.hid (own_bv O4.out hal)
      replace Z3 := Lib.hid (Z3.out.to hal)
      replace BB := Lib.hid (BB.out.trans (hal.mono BB.out.size))
      clear hal
      obtain ⟨g0, hg0⟩ : ∃ g, wn63.heap.size = g := ⟨_, rfl⟩
      rw [hg0] at O0 ⊢
      clear hg0
      have e9 : ([] : List Value).toArray = #[] := rfl
      rw [e9] at *
      clear e9
      generalize wn63.alloc (.cells #[] 59) = wn64 at *
      have NW := Lib.hid (RW.out.newsTo BB.out)
      refine wpAnyH_ready (rs := [3]) (by kernel_rfl) (by simp) ?_
      refine AllReadyH.cons rfl (fun K hK => ?_) AllReadyH.nil
      refine (step_pushV vtW rfl _ _ rfl rfl rfl O0.out NW.out.1 NW.out.2 (winsV_one _) (Nat.le_trans (Nat.le_of_eq HT.out.symm) BB.out.size) (by have := HNW.out; omega) ?_)
      intro v3 wn65 hown hk hv
      rw [Nat.zero_add, List.nil_append] at hown
      obtain ⟨A3, c3, rfl⟩ := own_slV hown
      have BK := hk.below BB.out BB.out.size (fun k hk => Nat.le_trans (Nat.le_of_eq HT.out) (O0.out.lt k hk).1)
      refine hK.out _ _ (SK.out _ BK) (fun hHeld => ?_)
      clear hK K
      simp only [Act.put, List.getElem_toArray, List.getElem_cons_zero, List.getElem_cons_succ, List.setIfInBounds_toArray, List.set_cons_zero, List.set_cons_succ]
      have O3 := Lib.hid hown
      replace O4 := Lib.hid (own_kv O4.out hk (fun b hb hh => own_ne O4.out O0.out (by decide) hb hh))
      replace Z3 := Lib.hid (Z3.out.kept hk (cpb_ne O0.out Z3.out (by decide)))
      replace BB := Lib.hid BK
      clear hown hk hv BK NW O0
      have NW := Lib.hid (RC.out.newsTo BB.out)
      refine wpAnyH_ready (rs := [7]) (by kernel_rfl) (by simp) ?_
      refine AllReadyH.cons rfl (fun K hK => ?_) AllReadyH.nil
      refine (step_pushV vtC rfl _ _ rfl rfl rfl O4.out NW.out.1 NW.out.2 (chsV_one _) (Nat.le_trans (Nat.le_of_eq HT.out.symm) BB.out.size) (by have := HNC.out; omega) ?_)
      intro v7 wn66 hown hk hv
      rw [Nat.zero_add, List.nil_append] at hown
      obtain ⟨A7, c7, rfl⟩ := own_slV hown
      have BK := hk.below BB.out BB.out.size (fun k hk => Nat.le_trans (Nat.le_of_eq HT.out) (O4.out.lt k hk).1)
      refine hK.out _ _ (SK.out _ BK) (fun hHeld => ?_)
      clear hK K
      simp only [Act.put, List.getElem_toArray, List.getElem_cons_zero, List.getElem_cons_succ, List.setIfInBounds_toArray, List.set_cons_zero, List.set_cons_succ]
      have O7 := Lib.hid hown
      replace O3 := Lib.hid (own_kv O3.out hk (fun b hb hh => own_ne O3.out O4.out (by decide) hb hh))
      replace Z3 := Lib.hid (Z3.out.kept hk (cpb_ne O4.out Z3.out (by decide)))
      replace BB := Lib.hid BK
      clear hown hk hv BK NW O4
      refine wpAnyH_take (i := 8) (v := ?_) rfl (by kernel_rfl) (by kernel_rfl) (by kernel_rfl) (fun _ _ _ h => h) (Or.inl ⟨by rfl, ?_⟩) (by assumption) ?_
      rotate_left 1
      · intro w hSw; (try dsimp only at hSw); go_simp; (try with_reducible rfl)
      simp only [Act.put, List.getElem_toArray, List.getElem_cons_zero, List.getElem_cons_succ, List.setIfInBounds_toArray, List.set_cons_zero, List.set_cons_succ]
      have z0 := Z3.out.at (j := 0) rfl
      have z1 := Z3.out.at (j := 1) rfl
      have z2 := Z3.out.at (j := 2) rfl
      have f0 := Z3.out.fz 0
      have f1 := Z3.out.fz 1
      have f2 := Z3.out.fz 2
      have hK := Keep.sets (R := (· = g3)) rfl [.slice A3 v.nw c3, .slice none 0 0, .slice A7 v.nc c7] 0 (Keep.refl _ wn66)
      have BS := below_sets (Nat.le_trans (Nat.le_of_eq HT.out) HG3.out) [.slice A3 v.nw c3, .slice none 0 0, .slice A7 v.nc c7] 0 BB.out
      have N3 := cpb_ne O3.out Z3.out (by decide)
      have N7 := cpb_ne O7.out Z3.out (by decide)
      have P3 := Z3.out.sets [.slice A3 v.nw c3, .slice none 0 0, .slice A7 v.nc c7] rfl
      have O3' := own_kv O3.out hK (fun b hb hh => N3 (hh ▸ hb))
      have O7' := own_kv O7.out hK (fun b hb hh => N7 (hh ▸ hb))
      refine wpAnyH_ready (rs := [10]) (by kernel_rfl) (by simp) ?_
      refine AllReadyH.cons rfl (fun K hK => ?_) AllReadyH.nil
      go_simp
      refine hK.out _ _ (SK.out _ BS) (fun hHeld => ?_)
      clear hK K
      refine wpAnyH_done (by kernel_rfl) ?_ _
      exact REST.out g3 _ _ T c3 c7 A3 A7 _ (by have := B2.out.size; have := HT.out; omega) HG3.out P3 O3' O7' (B2.out.trans (BS.mono B2.out.size))
theorem lCopied (v : CV) (c : Cf) (w : World) (h : RdCf w w.heap.size v c) (hw : v.nw ≤ 1000) (hp : v.np ≤ 1000) (hc : v.nc ≤ 1000) (hi : ∀ p ∈ c.ps, p.img.length ≤ 100000) :
    Calls Try.prog 9 #[.agg #[.slice v.aw v.nw v.kw, .slice v.ap v.np v.kp, .slice v.ac v.nc v.kc]] w fun x w' => ∃ v' : CV, x = .returned v'.val ∧ OwCf w' w.heap.size v' c ∧ Below w.heap.size w w' :=
  (lCopiedX v c w h hw hp hc hi).mono fun _ _ ⟨v', qs, e, ho, hb⟩ => ⟨v', e, ho.cf, hb⟩
end Go.Proofs.Ytecedmjhhaabgaa
