/- For any at most 300 bytes and any at most 40 fields the law WireBroken of citadellaw05 returns true: of a broken reader nothing mends it; what it tells is nothing. Conditions: none beyond those that the statement itself prints. -/
import Derived.Test.YtmhknpkiddgcpaaRows
import Derived.Test.YtmhknpkiddgcpaaWireBackD
import Derived.Test.YtmhknpkiddgcpaaWireAwake
import Derived.SizedLaws
import Derived.WalkKit
import Derived.ProofKit
import Derived.OpenShut
import Derived.ShutString
import Derived.ChangeOld
import Derived.Below
namespace Go.Proofs.Ytmhknpkiddgcpaa.wireBroken
open Go.ChangeShapes Go.WideShapes Go.ChangeAt Go.RowKit
open Go.ChangeMaps (open_string shut_string)
set_option linter.unusedVariables false
set_option linter.unusedSimpArgs false

theorem own : ownKnob Try.prog.godebug = none := by kernel_rfl
theorem laidOut : laidOutB Try.prog = true := by kernel_rfl

theorem wpList_load_midG5 {P : Program} {ops : Array Oper} {rest : List Oper} {op : Oper} {a : Act} {w : World} {Q : Exit → Act → World → Prop} (hw : Region.wanted op (yielded ops a.tmps) = true) (ty : TypeId) (x : Operand) (ho : op.op = .load ty x)
    (b o : Nat) (hx : a.eval x = .pointer (some ⟨b, o, none⟩)) (cs : List Value) (d : TypeDesc) (hc : w.rangeAt b o cs)
    (hu : P.underlying ty = some d) (hd : d.isRow = true) (hi : (P.info? ty).map (·.size) = some cs.length)
    (h : wpList P ops Q rest (a.put op.dst (.agg cs.toArray)) w) : wpList P ops Q (op :: rest) a w :=
  wpList_step fun K hK => by rw [if_pos hw]; exact wp_load_mid ty x ho b o hx cs d hc hu hd hi (hK _ _ h)
def BrokenRel (w : World) (n gp : Nat) (e i : Value) (wr : World) : Prop :=
  ∃ (k : Nat) (s : RS) (F : Nat → Prop), k ≤ n ∧ i = .int .i64 (k : Int) ∧ e = .int .i64 (s.e : Int) ∧ (s.e = 0 ∨ s.e = 50) ∧ PrAt wr gp F s ∧ (∀ k, F k → w.heap.size ≤ k) ∧ Below w.heap.size w wr
set_option maxRecDepth 100000 in
set_option maxHeartbeats 4000000 in
theorem walk (a0 : Option Addr) (len0 cap0 : Nat) (z0 : List Int) (a1 : Option Addr) (len1 cap1 : Nat) (fs1 : List Fld) (w : World) (w0 : IsRow .u8 w a0 len0 cap0 z0) (w1 : RdF w w.heap.size a1 len1 fs1 ∧ len1 ≤ cap1 ∧ cap1 * 88 ≤ 140737488351232) :
    Calls Try.prog 9 #[.slice a0 len0 cap0, .slice a1 len1 cap1] w fun e w' => e = .returned (.bool true) ∧ Below w.heap.size w w' := by
  obtain ⟨r0, hcap0, hcap0'⟩ := w0.rd
  obtain ⟨r1, hcap1, hcap1'⟩ := w1
  generalize bytesIn (z0.take len0) = bs at r0
  clear w0
  have R := Lib.hid r0
  have S := Lib.hid r1
  clear r0 r1
  go_enter Try.func9, Try.ntmps9
  go_wp2_with fail
  refine (awake w).mono ?_
  rintro e w1 ⟨rfl, hb⟩
  have B := Lib.hid hb
  replace R := Lib.hid (R.out.to hb)
  clear hb
  by_cases hout : 300 < len0 ∨ 40 < len1
  · by_cases h1 : 300 < len0
    · go_wp2_with fail
      go_ret
      exact ⟨rfl, B.out⟩
    have h3 : 40 < len1 := by omega
    go_wp2_with fail
    go_ret
    exact ⟨rfl, B.out⟩
  have hl0 : len0 ≤ 300 := by omega
  have hl1 : len1 ≤ 40 := by omega
  clear hout
  have HN : Hid (newRS bs = ⟨bs, 0⟩) := by (show _ = _); unfold newRS; rw [if_neg (by rw [R.out.1]; omega)]
  go_wp2_with fail
  refine (pNew a0 len0 cap0 bs w1 R.out hcap0 hcap0' (by omega)).mono ?_
  rw [HN.out]
  rintro e w2 ⟨gp, F, rfl, hp, hF, hb⟩
  have P := Lib.hid hp
  have HF : Hid (∀ b, F b → w.heap.size ≤ b) := fun b h => Nat.le_trans B.out.size (hF b h)
  replace B := Lib.hid (B.out.trans (hb.mono B.out.size))
  clear hp hF hb R
  go_wp2_with fail
  go_loopw [6, 7, 8] (fun e i _ wr => BrokenRel w len1 gp e i wr) (fun _ i _ _ => len1 - (intOf i).toNat)
  case atStart => exact ⟨0, ⟨bs, 0⟩, F, Nat.zero_le _, rfl, rfl, .inl rfl, P.out, HF.out, B.out⟩
  case round =>
    clear P HF B HN
    obtain ⟨k, ⟨rest, se⟩, F, hk, rfl, rfl, hse, hp, hF, hb⟩ := hrel
    have P := Lib.hid hp
    have HF := Lib.hid hF
    have B := Lib.hid hb
    have HK := Lib.hid hk
    clear hp hF hb hk
    by_cases hlt : k < len1
    · obtain ⟨b, o, rfl, hbo, hc⟩ := S.out.2 (by omega)
      obtain ⟨A', m', c', h1, h2⟩ := hc k hlt
      have RNG := Lib.hid h1
      have hcell := (rangeAt_below h1 B.out hbo) 0 _ rfl
      rw [Nat.add_zero] at hcell
      have HNN := Lib.hid h2.nn
      have HBO := Lib.hid hbo
      clear hc h1 h2 hbo
      generalize fs1.getD k Fld.zero = q at *
      have hcell' : wr.cell? ⟨b, o + k * 37, none⟩ = some (.int .i64 q.what) := hcell
      clear hcell
      have hzf := fld_zero
      have HSE : Hid (se = 0 ∨ se = 50) := hse
      clear hse
      go_wp2_with fail
      refine (rBack gp F ⟨rest, se⟩ wr q.what P.out).mono ?_
      rintro e w4 ⟨A, m, c, F4, rfl, hrd, hmc, hcc, hp, hoff, hoff2, hs, hk⟩
      have HML : Hid ((backF ⟨rest, se⟩ q.what).b.length = m) := hrd.1
      have HTL := Lib.hid (backF_tl ⟨rest, se⟩ q.what)
      have HS4 := Lib.hid (backS_e (s := ⟨rest, se⟩) q.what HSE.out)
      have HBF : Hid (se ≠ 0 → backF ⟨rest, se⟩ q.what = ⟨q.what, 0, 0, false, [], zeros32⟩) := fun h => backF_bad q.what h
      have HBS : Hid (se ≠ 0 → backS ⟨rest, se⟩ q.what = ⟨rest, se⟩) := fun h => backS_bad q.what h
      obtain ⟨f, hf⟩ : ∃ f, backF ⟨rest, se⟩ q.what = f := ⟨_, rfl⟩
      obtain ⟨s4, hs4⟩ : ∃ f, backS ⟨rest, se⟩ q.what = f := ⟨_, rfl⟩
      rw [hf] at HML HTL HBF ⊢
      rw [hs4] at hp HS4 HBS
      have HF4 : Hid (∀ k, F4 k → w.heap.size ≤ k) := fun k hf => by
        rcases hs k hf with h4 | h4
        · exact HF.out k h4
        · have := B.out.size; omega
      have b4 := Keep.below B.out hk B.out.size HF.out
      have hb5 : Below w4.heap.size w4 (w4.alloc (.cells (fldL f A m c).toArray 31)) := (Below.refl _ _).alloc (Nat.le_refl _) _
      have hfb : FB (w4.alloc (.cells (fldL f A m c).toArray 31)) w4.heap.size f A m c := heap_alloc_last w4 _
      have hnf : ¬ F4 w4.heap.size := fun h => absurd (hp.lt _ h) (Nat.lt_irrefl _)
      have hg0 : (w4.alloc (.cells zeroF 31)).heap[w4.heap.size]? = some (.cells zeroF 31 (0, 0)) := heap_alloc_last w4 _
      have hset : (w4.alloc (.cells zeroF 31)).setRow w4.heap.size (fldL f A m c).toArray = w4.alloc (.cells (fldL f A m c).toArray 31) := by rw [World.setRow_alloc_new]
      have P5 := Lib.hid (hp.to hb5)
      have B5 := Lib.hid (b4.trans (hb5.mono b4.size))
      obtain ⟨w5, hw5⟩ : ∃ w5, w4.alloc (.cells (fldL f A m c).toArray 31) = w5 := ⟨_, rfl⟩
      rw [hw5] at hfb P5 B5 hset
      have FB5 := Lib.hid hfb
      have HNF := Lib.hid hnf
      have G0 := Lib.hid hg0
      have HSET := Lib.hid hset
      have HG8 : Hid (w.heap.size ≤ w4.heap.size) := b4.size
      have rng5 := rangeAt_below RNG.out B5.out HBO.out
      have hc0 := rng5 0 _ rfl
      rw [Nat.add_zero] at hc0
      have hc0' : w5.cell? ⟨b, o + k * 37, none⟩ = some (.int .i64 q.what) := hc0
      have hc2 : w5.cell? ⟨b, o + k * 37 + 2, none⟩ = some (.int .i64 q.n) := rng5 2 _ rfl
      have SFF : Hid ((Try.prog.info? 31).map (·.size) = some (fldL f A m c).toArray.size) := FB.size HTL.out A m c
      have SZZ : Hid (zeroF.size = (fldL f A m c).toArray.size) := by
        have h37 : (fldL f A m c).toArray.size = 37 := by rw [List.size_toArray]; exact fldL_len HTL.out A m c
        show _ = _
        rw [h37]; rfl
      clear hrd hmc hcc hp hoff hoff2 hs hk hf hs4 b4 hb5 hfb hnf hg0 hset hw5 P B HF hcell' RNG rng5 hc0
      obtain ⟨g8, hg8⟩ : ∃ g, w4.heap.size = g := ⟨_, rfl⟩
      rw [hg8] at FB5 HNF G0 HSET HG8
      have HGG := Lib.hid hg8
      clear hg8
      obtain ⟨x, hx⟩ : ∃ x, q.what = x := ⟨_, rfl⟩
      obtain ⟨y, hy⟩ : ∃ x, q.n = x := ⟨_, rfl⟩
      rw [hx] at HBF hc0'
      rw [hy] at hc2 HNN
      rw [hx]
      clear hx hy
      rcases HSE.out with rfl | rfl
      · clear HBF HBS HML
        by_cases hin : x < 0 ∨ 5 < x
        · by_cases hx0 : x < 0
          · clear hin
            go_wp2_with (refine wpList_store_row rfl 31 _ _ rfl w4.heap.size _ rfl rfl 31 zeroF (by rw [HGG.out]; exact G0.out) SFF.out SZZ.out (fld_one _ _ _ _) ?_; rw [HGG.out, HSET.out])
            refine (pCount gp F4 s4 y w5 P5.out HNN.out).mono ?_
            have HS5 := Lib.hid (countS_e y HS4.out)
            obtain ⟨cv, hcv⟩ : ∃ c, countV s4 y = c := ⟨_, rfl⟩
            rw [hcv]
            have HCV := Lib.hid hcv
            clear hcv
            rintro e w6 ⟨rfl, F6, hp, hs, hk⟩
            have F6B := Lib.hid (FB5.out.kept hk HNF.out)
            have HF6 : Hid (∀ k, F6 k → w.heap.size ≤ k) := fun k hf => by
              rcases hs k hf with h4 | h4
              · exact HF4.out k h4
              · have := B5.out.size; omega
            have HN6 : Hid (¬ F6 g8) := fun hf => by
              rcases hs g8 hf with h4 | h4
              · exact HNF.out h4
              · have := heap_at_lt FB5.out; omega
            have P6 := Lib.hid hp
            have B6 := Lib.hid (Keep.below B5.out hk B5.out.size HF4.out)
            obtain ⟨hcl, hfr⟩ := F6B.out.at (j := 2) rfl
            clear hp hs hk hc0' hc2 B5 P5 FB5 HF4
            have F7 := Lib.hid (F6B.out.set2 cv)
            have P7 : Hid (PrAt (w6.setCell ⟨g8, 2, none⟩ (.int .i64 cv)) gp F6 (countS s4 y)) := P6.out.kept (R := (· = g8)) ((Keep.refl _ w6).setCell _ _ rfl) (fun b hb e => HN6.out (e ▸ hb))
            have B7 : Hid (Below w.heap.size w (w6.setCell ⟨g8, 2, none⟩ (.int .i64 cv))) := B6.out.setCell HG8.out _
            go_wp2_with fail
            have PX := P7
            have BX := B7
            have HX := HS5
            have HFX := HF6
            clear P7 B7 HS5 HF6
            refine (pErr gp F6 (countS s4 y) _ PX.out).mono ?_
            obtain ⟨s9, hs9⟩ : ∃ t, (countS s4 y) = t := ⟨_, rfl⟩
            rw [hs9] at PX HX
            rw [hs9]
            obtain ⟨r9, e9⟩ := s9
            clear hs9
            rintro e w9 ⟨rfl, hb⟩
            have P9 := Lib.hid (PX.out.to hb)
            have B9 := Lib.hid (BX.out.trans (hb.mono BX.out.size))
            have HX9 : Hid (e9 = 0 ∨ e9 = 50) := HX.out
            clear hb PX BX HX
            rcases HX9.out with rfl | rfl
            · go_wp2_with fail
              go_roundw
              case rel => exact ⟨k + 1, ⟨r9, 0⟩, F6, by omega, by go_num, rfl, .inl rfl, P9.out, HFX.out, B9.out⟩
              case measure => simp [intOf]; omega
            · go_wp2_with fail
              go_roundw
              case rel => exact ⟨k + 1, ⟨r9, 50⟩, F6, by omega, by go_num, rfl, .inr rfl, P9.out, HFX.out, B9.out⟩
              case measure => simp [intOf]; omega
          · have hx5 : 5 < x := by omega
            clear hin
            go_wp2_with (refine wpList_store_row rfl 31 _ _ rfl w4.heap.size _ rfl rfl 31 zeroF (by rw [HGG.out]; exact G0.out) SFF.out SZZ.out (fld_one _ _ _ _) ?_; rw [HGG.out, HSET.out])
            refine (pCount gp F4 s4 y w5 P5.out HNN.out).mono ?_
            have HS5 := Lib.hid (countS_e y HS4.out)
            obtain ⟨cv, hcv⟩ : ∃ c, countV s4 y = c := ⟨_, rfl⟩
            rw [hcv]
            have HCV := Lib.hid hcv
            clear hcv
            rintro e w6 ⟨rfl, F6, hp, hs, hk⟩
            have F6B := Lib.hid (FB5.out.kept hk HNF.out)
            have HF6 : Hid (∀ k, F6 k → w.heap.size ≤ k) := fun k hf => by
              rcases hs k hf with h4 | h4
              · exact HF4.out k h4
              · have := B5.out.size; omega
            have HN6 : Hid (¬ F6 g8) := fun hf => by
              rcases hs g8 hf with h4 | h4
              · exact HNF.out h4
              · have := heap_at_lt FB5.out; omega
            have P6 := Lib.hid hp
            have B6 := Lib.hid (Keep.below B5.out hk B5.out.size HF4.out)
            obtain ⟨hcl, hfr⟩ := F6B.out.at (j := 2) rfl
            clear hp hs hk hc0' hc2 B5 P5 FB5 HF4
            have F7 := Lib.hid (F6B.out.set2 cv)
            have P7 : Hid (PrAt (w6.setCell ⟨g8, 2, none⟩ (.int .i64 cv)) gp F6 (countS s4 y)) := P6.out.kept (R := (· = g8)) ((Keep.refl _ w6).setCell _ _ rfl) (fun b hb e => HN6.out (e ▸ hb))
            have B7 : Hid (Below w.heap.size w (w6.setCell ⟨g8, 2, none⟩ (.int .i64 cv))) := B6.out.setCell HG8.out _
            go_wp2_with fail
            have PX := P7
            have BX := B7
            have HX := HS5
            have HFX := HF6
            clear P7 B7 HS5 HF6
            refine (pErr gp F6 (countS s4 y) _ PX.out).mono ?_
            obtain ⟨s9, hs9⟩ : ∃ t, (countS s4 y) = t := ⟨_, rfl⟩
            rw [hs9] at PX HX
            rw [hs9]
            obtain ⟨r9, e9⟩ := s9
            clear hs9
            rintro e w9 ⟨rfl, hb⟩
            have P9 := Lib.hid (PX.out.to hb)
            have B9 := Lib.hid (BX.out.trans (hb.mono BX.out.size))
            have HX9 : Hid (e9 = 0 ∨ e9 = 50) := HX.out
            clear hb PX BX HX
            rcases HX9.out with rfl | rfl
            · go_wp2_with fail
              go_roundw
              case rel => exact ⟨k + 1, ⟨r9, 0⟩, F6, by omega, by go_num, rfl, .inl rfl, P9.out, HFX.out, B9.out⟩
              case measure => simp [intOf]; omega
            · go_wp2_with fail
              go_roundw
              case rel => exact ⟨k + 1, ⟨r9, 50⟩, F6, by omega, by go_num, rfl, .inr rfl, P9.out, HFX.out, B9.out⟩
              case measure => simp [intOf]; omega
        · have hx0 : ¬ x < 0 := by omega
          have hx5 : ¬ 5 < x := by omega
          clear hin
          go_wp2_with (refine wpList_store_row rfl 31 _ _ rfl w4.heap.size _ rfl rfl 31 zeroF (by rw [HGG.out]; exact G0.out) SFF.out SZZ.out (fld_one _ _ _ _) ?_; rw [HGG.out, HSET.out])
          have PX := P5
          have BX := B5
          have HX := HS4
          have HFX := HF4
          clear P5 B5 HS4 HF4 FB5
          refine (pErr gp F4 s4 _ PX.out).mono ?_
          obtain ⟨s9, hs9⟩ : ∃ t, s4 = t := ⟨_, rfl⟩
          rw [hs9] at PX HX
          rw [hs9]
          obtain ⟨r9, e9⟩ := s9
          clear hs9
          rintro e w9 ⟨rfl, hb⟩
          have P9 := Lib.hid (PX.out.to hb)
          have B9 := Lib.hid (BX.out.trans (hb.mono BX.out.size))
          have HX9 : Hid (e9 = 0 ∨ e9 = 50) := HX.out
          clear hb PX BX HX
          rcases HX9.out with rfl | rfl
          · go_wp2_with fail
            go_roundw
            case rel => exact ⟨k + 1, ⟨r9, 0⟩, F4, by omega, by go_num, rfl, .inl rfl, P9.out, HFX.out, B9.out⟩
            case measure => simp [intOf]; omega
          · go_wp2_with fail
            go_roundw
            case rel => exact ⟨k + 1, ⟨r9, 50⟩, F4, by omega, by go_num, rfl, .inr rfl, P9.out, HFX.out, B9.out⟩
            case measure => simp [intOf]; omega
      · have hf := HBF.out (by decide)
        have hs := HBS.out (by decide)
        subst hf
        rw [hs] at P5 HS4
        rw [hs] at HBS
        obtain rfl : m = 0 := HML.out.symm
        have HS4E := Lib.hid hs
        clear hs HBF HBS HML HS4
        have hu := Try.underlying29
        have hi : (Try.prog.info? 29).map (·.size) = some (zeros32.map bval).length := by rw [List.length_map]; exact (zero_of_info tag_info).2
        have hgd : Try.prog.eqGuardType Try.prog.depth 29 = false := by kernel_rfl
        have heq : ∀ w', (Op.equalIn 10000 29 (.agg (zeros32.map bval).toArray) (.agg (arrB zeros32))).run Try.prog w' = .ok (decide (zeros32 = zeros32)) w' := fun w' => run_eql_arrB (P := Try.prog) Try.underlying29 Try.underlying5 (sizeOf_one (by kernel_rfl)) zeros32 zeros32 rfl rfl w'
        rw [show decide (zeros32 = zeros32) = true from decide_eq_true rfl] at heq
        have hz := tag_zero
        by_cases hin : x < 0 ∨ 5 < x
        · by_cases hx0 : x < 0
          · clear hin
            go_wp2_with (refine wpList_store_row rfl 31 _ _ rfl w4.heap.size _ rfl rfl 31 zeroF (by rw [HGG.out]; exact G0.out) SFF.out SZZ.out (fld_one _ _ _ _) ?_; rw [HGG.out, HSET.out])
            have hcs := count_bad (s := ⟨rest, 50⟩) (most := y) (show (50 : Nat) ≠ 0 by decide)
            refine (pCount gp F4 ⟨rest, 50⟩ y w5 P5.out HNN.out).mono ?_
            rw [hcs.1, hcs.2]
            clear hcs
            rintro e w6 ⟨rfl, F6, hp, hs, hk⟩
            have F6B := Lib.hid (FB5.out.kept hk HNF.out)
            have HFX : Hid (∀ k, F6 k → w.heap.size ≤ k) := fun k hf => by
              rcases hs k hf with h4 | h4
              · exact HF4.out k h4
              · have := B5.out.size; omega
            have HN6 : Hid (¬ F6 g8) := fun hf => by
              rcases hs g8 hf with h4 | h4
              · exact HNF.out h4
              · have := heap_at_lt FB5.out; omega
            have P6 := Lib.hid hp
            have B6 := Lib.hid (Keep.below B5.out hk B5.out.size HF4.out)
            obtain ⟨hcl, hfr⟩ := F6B.out.at (j := 2) rfl
            clear hp hs hk hc0' hc2 B5 P5 FB5 HF4
            have FBX := Lib.hid (F6B.out.set2 0)
            have PX : Hid (PrAt (w6.setCell ⟨g8, 2, none⟩ (.int .i64 0)) gp F6 ⟨rest, 50⟩) := P6.out.kept (R := (· = g8)) ((Keep.refl _ w6).setCell _ _ rfl) (fun b hb e => HN6.out (e ▸ hb))
            have BX : Hid (Below w.heap.size w (w6.setCell ⟨g8, 2, none⟩ (.int .i64 0))) := B6.out.setCell HG8.out _
            clear P6 B6
            go_wp2_with fail
            clear hcl hfr
            obtain ⟨w7, hw7⟩ : ∃ w7, w6.setCell ⟨g8, 2, none⟩ (.int .i64 0) = w7 := ⟨_, rfl⟩
            rw [hw7] at FBX PX BX ⊢
            clear hw7
            have hE := Lib.hid PX.out.err
            have hc1 : World.cell? _ ⟨g8, 1, none⟩ = some (.int .u8 0) := (FBX.out.at (j := 1) rfl).1
            have hc2 : World.cell? _ ⟨g8, 2, none⟩ = some (.int .i64 0) := (FBX.out.at (j := 2) rfl).1
            have hc3 : World.cell? _ ⟨g8, 3, none⟩ = some (.bool false) := (FBX.out.at (j := 3) rfl).1
            have hc4 : World.cell? _ ⟨g8, 4, none⟩ = some (.slice A 0 c) := (FBX.out.at (j := 4) rfl).1
            have hrg : World.rangeAt _ g8 5 (zeros32.map bval) := fun j v hv => (FBX.out.at (j := 5 + j) (by show (fldL _ _ _ _)[5 + j]? = _; rw [show 5 + j = j + 5 from Nat.add_comm _ _]; exact hv)).1
            refine (hE.out).mono ?_
            rintro e w9 ⟨rfl, rfl⟩
            go_wp2_with fail
            refine (pEnd_bad _ 50 _ hE.out (by decide)).mono ?_
            rintro e w9 ⟨rfl, rfl⟩
            go_wp2_with fail
            refine (pLeft_bad _ 50 _ hE.out (by decide)).mono ?_
            rintro e w9 ⟨rfl, rfl⟩
            go_wp2_with (refine wpList_load_midG5 (by rfl) 29 _ rfl g8 5 rfl (zeros32.map bval) _ hrg hu rfl hi ?_)
            refine (hE.out).mono ?_
            rintro e w9 ⟨rfl, rfl⟩
            go_wp2_with fail
            go_roundw
            case rel => exact ⟨k + 1, ⟨rest, 50⟩, _, by omega, by go_num, rfl, .inr rfl, PX.out, HFX.out, BX.out⟩
            case measure => simp [intOf]; omega
          · have hx5 : 5 < x := by omega
            clear hin
            go_wp2_with (refine wpList_store_row rfl 31 _ _ rfl w4.heap.size _ rfl rfl 31 zeroF (by rw [HGG.out]; exact G0.out) SFF.out SZZ.out (fld_one _ _ _ _) ?_; rw [HGG.out, HSET.out])
            have hcs := count_bad (s := ⟨rest, 50⟩) (most := y) (show (50 : Nat) ≠ 0 by decide)
            refine (pCount gp F4 ⟨rest, 50⟩ y w5 P5.out HNN.out).mono ?_
            rw [hcs.1, hcs.2]
            clear hcs
            rintro e w6 ⟨rfl, F6, hp, hs, hk⟩
            have F6B := Lib.hid (FB5.out.kept hk HNF.out)
            have HFX : Hid (∀ k, F6 k → w.heap.size ≤ k) := fun k hf => by
              rcases hs k hf with h4 | h4
              · exact HF4.out k h4
              · have := B5.out.size; omega
            have HN6 : Hid (¬ F6 g8) := fun hf => by
              rcases hs g8 hf with h4 | h4
              · exact HNF.out h4
              · have := heap_at_lt FB5.out; omega
            have P6 := Lib.hid hp
            have B6 := Lib.hid (Keep.below B5.out hk B5.out.size HF4.out)
            obtain ⟨hcl, hfr⟩ := F6B.out.at (j := 2) rfl
            clear hp hs hk hc0' hc2 B5 P5 FB5 HF4
            have FBX := Lib.hid (F6B.out.set2 0)
            have PX : Hid (PrAt (w6.setCell ⟨g8, 2, none⟩ (.int .i64 0)) gp F6 ⟨rest, 50⟩) := P6.out.kept (R := (· = g8)) ((Keep.refl _ w6).setCell _ _ rfl) (fun b hb e => HN6.out (e ▸ hb))
            have BX : Hid (Below w.heap.size w (w6.setCell ⟨g8, 2, none⟩ (.int .i64 0))) := B6.out.setCell HG8.out _
            clear P6 B6
            go_wp2_with fail
            clear hcl hfr
            obtain ⟨w7, hw7⟩ : ∃ w7, w6.setCell ⟨g8, 2, none⟩ (.int .i64 0) = w7 := ⟨_, rfl⟩
            rw [hw7] at FBX PX BX ⊢
            clear hw7
            have hE := Lib.hid PX.out.err
            have hc1 : World.cell? _ ⟨g8, 1, none⟩ = some (.int .u8 0) := (FBX.out.at (j := 1) rfl).1
            have hc2 : World.cell? _ ⟨g8, 2, none⟩ = some (.int .i64 0) := (FBX.out.at (j := 2) rfl).1
            have hc3 : World.cell? _ ⟨g8, 3, none⟩ = some (.bool false) := (FBX.out.at (j := 3) rfl).1
            have hc4 : World.cell? _ ⟨g8, 4, none⟩ = some (.slice A 0 c) := (FBX.out.at (j := 4) rfl).1
            have hrg : World.rangeAt _ g8 5 (zeros32.map bval) := fun j v hv => (FBX.out.at (j := 5 + j) (by show (fldL _ _ _ _)[5 + j]? = _; rw [show 5 + j = j + 5 from Nat.add_comm _ _]; exact hv)).1
            refine (hE.out).mono ?_
            rintro e w9 ⟨rfl, rfl⟩
            go_wp2_with fail
            refine (pEnd_bad _ 50 _ hE.out (by decide)).mono ?_
            rintro e w9 ⟨rfl, rfl⟩
            go_wp2_with fail
            refine (pLeft_bad _ 50 _ hE.out (by decide)).mono ?_
            rintro e w9 ⟨rfl, rfl⟩
            go_wp2_with (refine wpList_load_midG5 (by rfl) 29 _ rfl g8 5 rfl (zeros32.map bval) _ hrg hu rfl hi ?_)
            refine (hE.out).mono ?_
            rintro e w9 ⟨rfl, rfl⟩
            go_wp2_with fail
            go_roundw
            case rel => exact ⟨k + 1, ⟨rest, 50⟩, _, by omega, by go_num, rfl, .inr rfl, PX.out, HFX.out, BX.out⟩
            case measure => simp [intOf]; omega
        · have hx0 : ¬ x < 0 := by omega
          have hx5 : ¬ 5 < x := by omega
          clear hin
          go_wp2_with (refine wpList_store_row rfl 31 _ _ rfl w4.heap.size _ rfl rfl 31 zeroF (by rw [HGG.out]; exact G0.out) SFF.out SZZ.out (fld_one _ _ _ _) ?_; rw [HGG.out, HSET.out])
          have PX := P5
          have BX := B5
          have HFX := HF4
          have FBX := FB5
          clear P5 B5 HF4 FB5 hc2 hc0'
          have hE := Lib.hid PX.out.err
          have hc1 : World.cell? _ ⟨g8, 1, none⟩ = some (.int .u8 0) := (FBX.out.at (j := 1) rfl).1
          have hc2 : World.cell? _ ⟨g8, 2, none⟩ = some (.int .i64 0) := (FBX.out.at (j := 2) rfl).1
          have hc3 : World.cell? _ ⟨g8, 3, none⟩ = some (.bool false) := (FBX.out.at (j := 3) rfl).1
          have hc4 : World.cell? _ ⟨g8, 4, none⟩ = some (.slice A 0 c) := (FBX.out.at (j := 4) rfl).1
          have hrg : World.rangeAt _ g8 5 (zeros32.map bval) := fun j v hv => (FBX.out.at (j := 5 + j) (by show (fldL _ _ _ _)[5 + j]? = _; rw [show 5 + j = j + 5 from Nat.add_comm _ _]; exact hv)).1
          refine (hE.out).mono ?_
          rintro e w9 ⟨rfl, rfl⟩
          go_wp2_with fail
          refine (pEnd_bad _ 50 _ hE.out (by decide)).mono ?_
          rintro e w9 ⟨rfl, rfl⟩
          go_wp2_with fail
          refine (pLeft_bad _ 50 _ hE.out (by decide)).mono ?_
          rintro e w9 ⟨rfl, rfl⟩
          go_wp2_with (refine wpList_load_midG5 (by rfl) 29 _ rfl g8 5 rfl (zeros32.map bval) _ hrg hu rfl hi ?_)
          refine (hE.out).mono ?_
          rintro e w9 ⟨rfl, rfl⟩
          go_wp2_with fail
          go_roundw
          case rel => exact ⟨k + 1, ⟨rest, 50⟩, _, by omega, by go_num, rfl, .inr rfl, PX.out, HFX.out, BX.out⟩
          case measure => simp [intOf]; omega
    · obtain rfl : k = len1 := by have := HK.out; omega
      go_wp2_with fail
      go_ret
      exact ⟨rfl, B.out⟩

set_option maxRecDepth 100000 in
theorem lifted (os : Os) (started : os.Started) (H : Type) (enc : TypeId × Value → H) :
    ReturnsInHanded {} Try.checked os 9 .any (Rows.wireBrokenSpec.pre6 enc Try.prog Try.f9 Rows.wireBrokenRow.domain false) (Rows.wireBrokenSpec.post enc Try.prog Try.f9 false true false false) := by
  refine returnsInHanded_of_change_sized (C := Try.checked) own started (by kernel_rfl) Try.func9
    (ChangeSpec.witness6 (enc := enc) (C := Try.checked) false ⟨#[], #[.slice none 0 0, .slice none 0 0], []⟩ 8 (by kernel_rfl) (by kernel_rfl) (by kernel_rfl) (by kernel_rfl)) ?_
  intro W base args ds gs before hval0 hW hcnd hsz0 _
  have hval : ∀ (j : Nat) t v, Try.f9.params[j]? = some t → args[j]? = some v → Value.okWide Try.prog W .any base t v := hval0
  have hsz : (DataW.weightsEach Try.prog (Try.f9.params.toList ++ Rows.wireBrokenSpec.plain.varTypes Try.prog) (ds ++ gs)).all (· ≤ reachBytes) = true := hsz0
  have hW' := hW
  obtain ⟨p, q, hA0, hV, rfl, hfz, hnd⟩ := hW
  have hA : DataW.TrodAll enc Try.prog W 0 (fun _ => true) true Try.f9.params.toList args.toList ds p := hA0
  rw [Try.params9] at hA hval hsz
  obtain ⟨v0, vs0, d0, ds0, p0, q0, hargs, rfl, rfl, h0, r0⟩ := trodAll_cons hA
  obtain ⟨v1, vs1, d1, ds1, p1, q1, rfl, rfl, rfl, h1, r1⟩ := trodAll_cons r0
  obtain ⟨rfl, rfl, rfl⟩ := trodAll_nil r1
  obtain rfl : args = #[v0, v1] := by cases args; simp_all
  obtain ⟨rfl, rfl⟩ := trodVars_none hV
  have sz1 : ∀ x ∈ d1.weights Try.prog 22, x ≤ reachBytes := fun x hx => by simpa using List.all_eq_true.1 hsz _ (DataW.weights_mem_each (j := 1) rfl rfl x hx)
  obtain ⟨a0, len0, cap0, rfl⟩ := okWide_slice Try.underlying26 (hval 0 26 v0 rfl rfl)
  have k0 := h0
  have lt0 : ∀ x ∈ p0, x.block < W.heap.size := by obtain ⟨m, hm⟩ := k0; exact DataW.trod_lt m _ _ _ hm
  obtain ⟨z0, w0⟩ : ∃ zs, IsRow .u8 W a0 len0 cap0 zs := by
    obtain ⟨fuel, hf⟩ := h0
    rcases open_ints Try.underlying26 Try.underlying5 (by kernel_rfl) hf with ⟨hcs, _⟩ | ⟨x, l, c, zs, hcs, _, hl, hm, hz, _, hcell, hwz⟩
    · simp [Value.cells] at hcs
      obtain ⟨rfl, rfl, rfl⟩ := hcs
      exact ⟨[], .inl ⟨rfl, rfl, rfl, rfl⟩⟩
    · simp [Value.cells] at hcs
      obtain ⟨rfl, rfl, rfl⟩ := hcs
      exact ⟨zs, .inr ⟨_, rfl, hl, hm, by simpa using hz, hcell, hwz⟩⟩
  have k1 := h1
  have lt1 : ∀ x ∈ p1, x.block < W.heap.size := by obtain ⟨m, hm⟩ := k1; exact DataW.trod_lt m _ _ _ hm
  obtain ⟨a1, len1, cap1, fs1, rfl, w1⟩ := open_flds (hval 1 22 v1 rfl rfl) h1 sz1
  clear hA0 hval0
  refine (walk a0 len0 cap0 z0 a1 len1 cap1 fs1 W w0 w1).mono fun e W' ⟨he, bel⟩ => ?_
  subst he
  exact ⟨_, rfl, _, _, _, [], _, [], hW', trodAll_mk1 (shut_bool Try.underlying4 _), (trodAll_cons_mk (Below.trod laidOut (by kernel_rfl) (of_decide_eq_true (by kernel_rfl)) k0 bel lt0) (trodAll_cons_mk (Below.trod laidOut (by kernel_rfl) (of_decide_eq_true (by kernel_rfl)) k1 bel lt1) trodAll_mk0)), rfl, bel.frame _, fun h => by cases h⟩

theorem over : Rows.wireBrokenRow.holds Try.pinned (OpenSpec.ofChange Rows.wireBrokenSpec) :=
  OpenClaim.holds_of_wide 9 Try.f9 rfl rfl rfl rfl rfl rfl rfl ⟨rfl, rfl, rfl, rfl, rfl⟩ rfl rfl rfl rfl rfl (by kernel_rfl) Try.func9 (by kernel_rfl)
    (of_decide_eq_true (by kernel_rfl)) (by unfold Func.isWrapper; first | (rw [if_pos (by decide +kernel)]; kernel_rfl) | (rw [if_neg (by decide +kernel)]; exact ⟨rfl, rfl⟩))
    (fun os started H enc _ => lifted os started H enc)

theorem proved : Rows.WireBrokenSaid := over
end Go.Proofs.Ytmhknpkiddgcpaa.wireBroken
