/- For any at most 600 bytes and any at most 60 kinds the law WireOneWay of citadellaw05 returns true: fields that were taken of any bytes, added, are the bytes that they were taken of. Conditions: none beyond those that the statement itself prints. -/
import Derived.Test.YtmhknpkiddgcpaaRows
import Derived.Test.YtmhknpkiddgcpaaWirePushQ
import Derived.Test.YtmhknpkiddgcpaaWireAwake
import Derived.WalkKit
import Derived.ProofKit
import Derived.OpenShut
import Derived.ShutString
import Derived.ChangeOld
import Derived.Below
namespace Go.Proofs.Ytmhknpkiddgcpaa.wireOneWay
open Go.ChangeShapes Go.WideShapes Go.ChangeAt Go.RowKit
open Go.ChangeMaps (open_string shut_string)
set_option linter.unusedVariables false
set_option linter.unusedSimpArgs false

theorem own : ownKnob Try.prog.godebug = none := by kernel_rfl
theorem laidOut : laidOutB Try.prog = true := by kernel_rfl

theorem wpList_load_midG8 {P : Program} {ops : Array Oper} {rest : List Oper} {op : Oper} {a : Act} {w : World} {Q : Exit → Act → World → Prop} (hw : Region.wanted op (yielded ops a.tmps) = true) (ty : TypeId) (x : Operand) (ho : op.op = .load ty x)
    (b o : Nat) (hx : a.eval x = .pointer (some ⟨b, o, none⟩)) (cs : List Value) (d : TypeDesc) (hc : w.rangeAt b o cs)
    (hu : P.underlying ty = some d) (hd : d.isRow = true) (hi : (P.info? ty).map (·.size) = some cs.length)
    (h : wpList P ops Q rest (a.put op.dst (.agg cs.toArray)) w) : wpList P ops Q (op :: rest) a w :=
  wpList_step fun K hK => by rw [if_pos hw]; exact wp_load_mid ty x ho b o hx cs d hc hu hd hi (hK _ _ h)
theorem ints_at {w : World} {a : Option Addr} {len cap : Nat} {zs : List Int} (h : IsRow .i64 w a len cap zs) (hn : 0 < len) : ∃ b o, a = some ⟨b, o, none⟩ ∧ b < w.heap.size ∧ ∀ j, j < len → w.cell? ⟨b, o + j, none⟩ = some (.int .i64 (zs.getD j 0)) := by
  rcases h with ⟨rfl, rfl, rfl, rfl⟩ | ⟨x, rfl, hl, hm, hz, hc, hwf⟩
  · exact absurd hn (Nat.lt_irrefl 0)
  · obtain ⟨b, o, s⟩ := x
    have h0 := hc 0 (by omega)
    obtain rfl : s = none := by simpa [Addr.add] using World.cell?_spot h0
    refine ⟨b, o, rfl, ?_, fun j hj => ?_⟩
    · rcases Nat.lt_or_ge b w.heap.size with g | g
      · exact g
      · have e : w.cell? ⟨b, o, none⟩ = none := by simp [World.cell?, Array.getElem?_eq_none g]
        rw [show (⟨b, o, none⟩ : Addr).add 0 = ⟨b, o, none⟩ from by simp [Addr.add]] at h0
        rw [e] at h0; cases h0
    · have e : (⟨b, o, none⟩ : Addr).add j = ⟨b, o + j, none⟩ := by unfold Addr.add; split <;> simp_all
      rw [← e]; exact hc j (by omega)
theorem ownQ_kept {R : Nat → Prop} {w w' : World} {B : Nat} {v : Value} {l : List QF} (h : OwnQ w B v l) (hk : Keep R w w') (hn : ∀ b, v.ownBlock = some b → ¬ R b) (hq : ∀ q ∈ l, Off q.A q.m R) : OwnQ w' B v l := by
  refine ⟨⟨h.1.1, ?_⟩, fun q hqq => ⟨(h.2 q hqq).1.kept hk (hq q hqq), (h.2 q hqq).2⟩⟩
  rcases h.1.2 with h | ⟨g, cap, cur, e, hg, hh, h⟩
  · exact .inl h
  · exact .inr ⟨g, cap, cur, e, hg, (hk.block g (heap_at_lt hh) (hn g (by rw [e]; rfl))).trans hh, h⟩
theorem ownQ_to {w w' : World} {B : Nat} {v : Value} {l : List QF} (h : OwnQ w B v l) (hb : Below w.heap.size w w') : OwnQ w' B v l := ownQ_kept (R := fun _ => False) h (Keep.of_below hb) (fun _ _ h => h) (fun _ _ _ _ _ _ h => h)
theorem ownQ_lt {w : World} {B : Nat} {v : Value} {l : List QF} (h : OwnQ w B v l) {b : Nat} (hb : v.ownBlock = some b) : B ≤ b ∧ b < w.heap.size := by
  rcases h.1.2 with ⟨rfl, _⟩ | ⟨g, cap, cur, rfl, hg, hh, _⟩
  · simp [Value.ownBlock] at hb
  · simp only [Value.ownBlock, Option.some.injEq] at hb
    subst hb
    exact ⟨hg, heap_at_lt hh⟩
/-- Fields are off the blocks that are off them, or new. -/
theorem off_new {w : World} {A : Option Addr} {m : Nat} {bs : List UInt8} {F F' : Nat → Prop} (h : Rd w w.heap.size A m bs) (ho : Off A m F) (hs : ∀ k, F' k → F k ∨ w.heap.size ≤ k) : Off A m F' := fun hn b o e hb => by
  obtain ⟨b', o', e', hlt, _⟩ := h.2 hn
  rw [e] at e'
  injection e' with e'; injection e' with e1 _
  rcases hs b hb with h1 | h1
  · exact ho hn b o e h1
  · omega
def OneRel (w : World) (n gp : Nat) (bs : List UInt8) (v i : Value) (wr : World) : Prop :=
  ∃ (rest : List UInt8) (F : Nat → Prop) (l : List QF), l.length ≤ n ∧ i = .int .i64 (l.length : Int) ∧ PrAt wr gp F ⟨rest, 0⟩ ∧ (∀ b, F b → w.heap.size ≤ b) ∧ OwnQ wr w.heap.size v l ∧ (∀ b, v.ownBlock = some b → ¬ F b) ∧ (∀ q ∈ l, Off q.A q.m F) ∧ Below w.heap.size w wr ∧ formF (l.map QF.f) l.length ++ rest = bs ∧ sumF (l.map QF.f) + rest.length ≤ 40 * l.length + bs.length
theorem sumF_app (a : List Fld) (f : Fld) : sumF (a ++ [f]) = sumF a + (40 + f.b.length) := by simp [sumF]
theorem formF_all (a : List Fld) (f : Fld) : formF (a ++ [f]) (a.length + 1) = formF a a.length ++ putF f := by
  unfold formF
  rw [List.take_of_length_le (by simp), List.take_of_length_le (Nat.le_refl _)]
  simp
set_option maxRecDepth 100000 in
set_option maxHeartbeats 4000000 in
theorem walk (a0 : Option Addr) (len0 cap0 : Nat) (z0 : List Int) (a1 : Option Addr) (len1 cap1 : Nat) (z1 : List Int) (w : World) (w0 : IsRow .u8 w a0 len0 cap0 z0) (w1 : IsRow .i64 w a1 len1 cap1 z1) :
    Calls Try.prog 8 #[.slice a0 len0 cap0, .slice a1 len1 cap1] w fun e w' => e = .returned (.bool true) ∧ Below w.heap.size w w' := by
  obtain ⟨r0, hcap0, hcap0'⟩ := w0.rd
  generalize bytesIn (z0.take len0) = bs at r0
  clear w0
  have R := Lib.hid r0
  have S := Lib.hid w1
  clear r0 w1
  go_enter Try.func8, Try.ntmps8
  go_wp2_with fail
  refine (awake w).mono ?_
  rintro e w1 ⟨rfl, hb⟩
  have B := Lib.hid hb
  clear hb
  by_cases hout : 600 < len0 ∨ 60 < len1
  · by_cases h1 : 600 < len0
    · go_wp2_with fail
      go_ret
      exact ⟨rfl, B.out⟩
    have h3 : 60 < len1 := by omega
    go_wp2_with fail
    go_ret
    exact ⟨rfl, B.out⟩
  have hl0 : len0 ≤ 600 := by omega
  have hl1 : len1 ≤ 60 := by omega
  clear hout
  have HL01 : Hid (len0 ≤ 600 ∧ len1 ≤ 60) := ⟨hl0, hl1⟩
  have HN : Hid (newRS bs = ⟨bs, 0⟩) := by (show _ = _); unfold newRS; rw [if_neg (by rw [R.out.1]; omega)]
  go_wp2_with fail
  refine (pNew a0 len0 cap0 bs w1 (R.out.to B.out) hcap0 hcap0' (by omega)).mono ?_
  rw [HN.out]
  rintro e w2 ⟨gp, F, rfl, hp, hF, hb⟩
  have P := Lib.hid hp
  have HF : Hid (∀ b, F b → w.heap.size ≤ b) := fun b h => Nat.le_trans B.out.size (hF b h)
  replace B := Lib.hid (B.out.trans (hb.mono B.out.size))
  clear hp hF hb
  go_wp2_with fail
  go_loopw [6, 7, 8, 9, 10, 11] (fun v i _ _ _ _ wr => OneRel w len1 gp bs v i wr) (fun _ i _ _ _ _ _ => len1 - (intOf i).toNat)
  case atStart => exact ⟨bs, F, [], Nat.zero_le _, rfl, P.out, HF.out, ⟨World.ownsRow_nil _ _ _ _, fun q h => by simp at h⟩, fun b h => by simp [Value.ownBlock] at h, fun q h => by simp at h, B.out, rfl, by simp [sumF]⟩
  case round =>
    clear P HF B HN
    obtain ⟨rest, F, l, hll, rfl, hp, hF, hown, hvF, hqF, hb, hform, hsum⟩ := hrel
    have P := Lib.hid hp
    have HF := Lib.hid hF
    have O := Lib.hid hown
    have HVF := Lib.hid hvF
    have HQF := Lib.hid hqF
    have B := Lib.hid hb
    have HFORM := Lib.hid hform
    have HSUM := Lib.hid hsum
    have HLL := Lib.hid hll
    clear hp hF hown hvF hqF hb hform hsum hll
    obtain ⟨k, hk⟩ : ∃ k, l.length = k := ⟨_, rfl⟩
    have HK := Lib.hid hk
    rw [hk] at HFORM HSUM HLL ⊢
    clear hk
    by_cases hlt : k < len1
    · obtain ⟨b, o, rfl, hbo, hc⟩ := ints_at S.out (by omega)
      have hcell : wr.cell? ⟨b, o + k, none⟩ = some (.int .i64 (z1.getD k 0)) := (B.out.cell (show (⟨b, o + k, none⟩ : Addr).block < w.heap.size from hbo)).trans (hc k hlt)
      have HCW := Lib.hid (hc k hlt)
      have HBO := Lib.hid hbo
      clear hc hbo
      generalize z1.getD k 0 = x at *
      by_cases hin : x < 0 ∨ 5 < x
      · by_cases hx0 : x < 0
        · clear hin
          go_wp2_with fail
          go_ret
          exact ⟨rfl, B.out⟩
        · have hx5 : 5 < x := by omega
          clear hin
          go_wp2_with fail
          go_ret
          exact ⟨rfl, B.out⟩
      have hx0 : ¬ x < 0 := by omega
      have hx5 : ¬ 5 < x := by omega
      have HX : Hid (0 ≤ x ∧ x ≤ 5) := ⟨by omega, by omega⟩
      clear hin
      go_wp2_with fail
      clear hcell hx0 hx5
      refine (pLeft gp F ⟨rest, 0⟩ wr P.out).mono ?_
      obtain ⟨rl, hrl⟩ : ∃ n, rest.length = n := ⟨_, rfl⟩
      have hlv : leftV ⟨rest, 0⟩ = rl := hrl
      rw [hlv]
      have HRL := Lib.hid hrl
      clear hlv hrl
      rintro e w3 ⟨rfl, hb⟩
      replace P := Lib.hid (P.out.to hb)
      replace O := Lib.hid (ownQ_to O.out hb)
      replace B := Lib.hid (B.out.trans (hb.mono B.out.size))
      have hcell : w3.cell? ⟨b, o + k, none⟩ = some (.int .i64 x) := (B.out.cell (show (⟨b, o + k, none⟩ : Addr).block < w.heap.size from HBO.out)).trans HCW.out
      clear hb
      have hzf := fld_zero
      go_wp2_with fail
      clear hcell
      refine (rBack gp F ⟨rest, 0⟩ w3 x P.out).mono ?_
      rintro e w4 ⟨A, m, c, F4, rfl, hrd, hmc, hcc, hp, hoff, hoff2, hs, hk⟩
      have HTL := Lib.hid (backF_tl ⟨rest, 0⟩ x)
      have HS4 := Lib.hid (backS_e (s := ⟨rest, 0⟩) x (.inl rfl))
      have HPB : Hid ((backS ⟨rest, 0⟩ x).e = 0 → putF (backF ⟨rest, 0⟩ x) ++ (backS ⟨rest, 0⟩ x).rest = rest ∧ (backS ⟨rest, 0⟩ x).rest.length < rest.length ∧ (0 : Nat) = 0) := fun h => put_back (s := ⟨rest, 0⟩) HX.out.1 HX.out.2 h
      have HBR : Hid ((backS ⟨rest, 0⟩ x).e ≠ 0 → backF ⟨rest, 0⟩ x = ⟨x, 0, 0, false, [], zeros32⟩) := fun h => back_broke (s := ⟨rest, 0⟩) HX.out.1 HX.out.2 h
      have HBL := Lib.hid (back_blen ⟨rest, 0⟩ HX.out.1 HX.out.2)
      obtain ⟨f, hf⟩ : ∃ f, backF ⟨rest, 0⟩ x = f := ⟨_, rfl⟩
      obtain ⟨s4, hs4⟩ : ∃ f, backS ⟨rest, 0⟩ x = f := ⟨_, rfl⟩
      rw [hf] at HTL HPB HBR HBL hrd ⊢
      rw [hs4] at hp HS4 HPB HBR
      have HF4 : Hid (∀ k, F4 k → w.heap.size ≤ k) := fun k hf => by
        rcases hs k hf with h4 | h4
        · exact HF.out k h4
        · have := B.out.size; omega
      have b4 := Keep.below B.out hk B.out.size HF.out
      have HVF4 : Hid (∀ b, u6.ownBlock = some b → ¬ F4 b) := fun b hb hf => by
        rcases hs b hf with h4 | h4
        · exact HVF.out b hb h4
        · have := (ownQ_lt O.out hb).2; omega
      have HQF4 : Hid (∀ q ∈ l, Off q.A q.m F4) := fun q hq => off_new (O.out.2 q hq).1.rd (HQF.out q hq) hs
      have o4 := ownQ_kept O.out hk HVF.out HQF.out
      have HVA : Hid (∀ b, u6.ownBlock = some b → Off A m (· = b)) := fun b hb hn b' o' e (h : b' = b) => by
        have h1 := (ownQ_lt O.out hb).2
        exact hoff2 hn b' o' e (by show b' < w3.heap.size; omega)
      have HOFF := Lib.hid hoff
      have HRD := Lib.hid hrd
      have HMC := Lib.hid hmc
      have HCC := Lib.hid hcc
      have hb5 : Below w4.heap.size w4 (w4.alloc (.cells (fldL f A m c).toArray 31)) := (Below.refl _ _).alloc (Nat.le_refl _) _
      have hfb : FB (w4.alloc (.cells (fldL f A m c).toArray 31)) w4.heap.size f A m c := heap_alloc_last w4 _
      have hg0 : (w4.alloc (.cells zeroF 31)).heap[w4.heap.size]? = some (.cells zeroF 31 (0, 0)) := heap_alloc_last w4 _
      have hset : (w4.alloc (.cells zeroF 31)).setRow w4.heap.size (fldL f A m c).toArray = w4.alloc (.cells (fldL f A m c).toArray 31) := by rw [World.setRow_alloc_new]
      have P5 := Lib.hid (hp.to hb5)
      have O5 := Lib.hid (ownQ_to o4 hb5)
      have B5 := Lib.hid (b4.trans (hb5.mono b4.size))
      have RD5 := Lib.hid (hrd.to hb5)
      obtain ⟨w5, hw5⟩ : ∃ w5, w4.alloc (.cells (fldL f A m c).toArray 31) = w5 := ⟨_, rfl⟩
      rw [hw5] at hfb P5 B5 O5 RD5 hset
      have FB5 := Lib.hid hfb
      have G0 := Lib.hid hg0
      have HSET := Lib.hid hset
      have SFF : Hid ((Try.prog.info? 31).map (·.size) = some (fldL f A m c).toArray.size) := FB.size HTL.out A m c
      have h37 : (fldL f A m c).toArray.size = 37 := by rw [List.size_toArray]; exact fldL_len HTL.out A m c
      have S37 := Lib.hid h37
      have SZZ : Hid (zeroF.size = (fldL f A m c).toArray.size) := by
        show _ = _
        rw [h37]; rfl
      clear hrd hmc hcc hp hoff hoff2 hs hk hf hs4 b4 o4 hb5 hfb hg0 hset hw5 P B O HF HVF HQF HRD h37 HX
      obtain ⟨g8, hg8⟩ : ∃ g, w4.heap.size = g := ⟨_, rfl⟩
      rw [hg8] at FB5 G0 HSET
      have HGG := Lib.hid hg8
      clear hg8
      go_wp2_with (refine wpList_store_row rfl 31 _ _ rfl w4.heap.size _ rfl rfl 31 zeroF (by rw [HGG.out]; exact G0.out) SFF.out SZZ.out (fld_one _ _ _ _) ?_; rw [HGG.out, HSET.out])
      have hE := Lib.hid P5.out.err
      refine (hE.out).mono ?_
      obtain ⟨r4, e4⟩ := s4
      rintro e w9 ⟨rfl, rfl⟩
      have HS4' : Hid (e4 = 0 ∨ e4 = 50) := HS4.out
      clear HS4
      rcases HS4'.out with rfl | rfl
      rotate_left 1
      · have hf := HBR.out (by show (50 : Nat) ≠ 0; decide)
        subst hf
        obtain rfl : m = 0 := RD5.out.1.symm
        have hu := Try.underlying29
        have hi : (Try.prog.info? 29).map (·.size) = some (zeros32.map bval).length := by rw [List.length_map]; exact (zero_of_info tag_info).2
        have hgd : Try.prog.eqGuardType Try.prog.depth 29 = false := by kernel_rfl
        have heq : ∀ w', (Op.equalIn 10000 29 (.agg (zeros32.map bval).toArray) (.agg (arrB zeros32))).run Try.prog w' = .ok (decide (zeros32 = zeros32)) w' := fun w' => run_eql_arrB (P := Try.prog) Try.underlying29 Try.underlying5 (sizeOf_one (by kernel_rfl)) zeros32 zeros32 rfl rfl w'
        rw [show decide (zeros32 = zeros32) = true from decide_eq_true rfl] at heq
        have hz := tag_zero
        have hc1 : World.cell? _ ⟨g8, 1, none⟩ = some (.int .u8 0) := (FB5.out.at (j := 1) rfl).1
        have hc2 : World.cell? _ ⟨g8, 2, none⟩ = some (.int .i64 0) := (FB5.out.at (j := 2) rfl).1
        have hc3 : World.cell? _ ⟨g8, 3, none⟩ = some (.bool false) := (FB5.out.at (j := 3) rfl).1
        have hc4 : World.cell? _ ⟨g8, 4, none⟩ = some (.slice A 0 c) := (FB5.out.at (j := 4) rfl).1
        have hrg : World.rangeAt _ g8 5 (zeros32.map bval) := fun j v hv => (FB5.out.at (j := 5 + j) (by show (fldL _ _ _ _)[5 + j]? = _; rw [show 5 + j = j + 5 from Nat.add_comm _ _]; exact hv)).1
        go_wp2_with fail
        refine (pLeft_bad _ 50 _ hE.out (by decide)).mono ?_
        rintro e w9 ⟨rfl, rfl⟩
        go_wp2_with (refine wpList_load_midG8 (by rfl) 29 _ rfl g8 5 rfl (zeros32.map bval) _ hrg hu rfl hi ?_)
        go_ret
        exact ⟨rfl, B5.out⟩
      · obtain ⟨hput0, hless0, _⟩ := HPB.out rfl
        have hput : putF f ++ r4 = rest := hput0
        have hless : r4.length < rest.length := hless0
        clear hput0 hless0
        have hb6 : Below w5.heap.size w5 (w5.alloc (.cells (fldL f A m c).toArray 31)) := (Below.refl _ _).alloc (Nat.le_refl _) _
        have g6 : (w5.alloc (.cells (fldL f A m c).toArray 31)).heap[w5.heap.size]? = some (.cells (fldL f A m c).toArray 31 (0, 0)) := heap_alloc_last w5 _
        have P6 := Lib.hid (P5.out.to hb6)
        have O6 := Lib.hid (ownQ_to O5.out hb6)
        have B6 := Lib.hid (B5.out.trans (hb6.mono B5.out.size))
        have Q6 : Hid (FldQ (w5.alloc (.cells (fldL f A m c).toArray 31)) (w5.alloc (.cells (fldL f A m c).toArray 31)).heap.size f A m c) := ⟨HTL.out, RD5.out.to hb6, HMC.out, HCC.out⟩
        obtain ⟨w6, hw6⟩ : ∃ w6, w5.alloc (.cells (fldL f A m c).toArray 31) = w6 := ⟨_, rfl⟩
        rw [hw6] at g6 P6 O6 B6 Q6
        have HW6 := Lib.hid hw6
        have G6 := Lib.hid g6
        obtain ⟨l2, hl2⟩ : ∃ t, l ++ [(⟨f, A, m, c⟩ : QF)] = t := ⟨_, rfl⟩
        have HL2 := Lib.hid hl2
        have HLEN2 : Hid (l2.length = k + 1) := by (show _ = _); rw [← hl2, List.length_append, HK.out]; rfl
        have hmap : l2.map QF.f = l.map QF.f ++ [f] := by rw [← hl2]; simp
        have HFM0 : Hid (formF (l2.map QF.f) l2.length ++ r4 = bs) := by
          have h1 := formF_all (l.map QF.f) f
          rw [List.length_map, HK.out] at h1
          show _ = _
          rw [hmap, HLEN2.out, h1, List.append_assoc, hput, HFORM.out]
        have HSUM2 : Hid (sumF (l2.map QF.f) + r4.length ≤ 40 * (k + 1) + bs.length) := by
          have h1 := HSUM.out
          have h2 := HBL.out
          have h3 := congrArg List.length hput
          rw [List.length_append] at h3
          show _ ≤ _
          rw [hmap, sumF_app]
          omega
        have HS2 : Hid (sumF (l2.map QF.f) ≤ 5000) := by
          have h1 := HSUM2.out
          have h2 := R.out.1
          have h3 := HL01.out
          show _ ≤ _
          omega
        have HQ7 : Hid (∀ q ∈ l2, Off q.A q.m F4) := fun q hq => by
          rw [← hl2] at hq
          rcases List.mem_append.1 hq with h1 | h1
          · exact HQF4.out q h1
          · obtain rfl : q = ⟨f, A, m, c⟩ := by simpa using h1
            exact HOFF.out
        have hinf := fld_info
        have HLK : Hid (l.length ≤ 1000) := by (show _ ≤ _); rw [HK.out]; have := HLL.out; have := HL01.out; omega
        have HBB6 : Hid (w.heap.size ≤ w6.heap.size) := B6.out.size
        clear hput hb6 g6 P5 O5 B5 hw6 hl2 hmap HPB HBR HQF4 HSUM HFORM HBL hE HOFF
        go_wp2_with (first | (refine wpList_load_row rfl 31 _ rfl g8 rfl 31 _ (0, 0) _ FB5.out Try.underlying31 rfl SFF.out ?_) | (refine wpList_buildField rfl _ rfl (fldL f A m c).toArray rfl Try.underlying22 hinf S37.out ?_; rw [HW6.out]) | (at_builtin; go_must (refine wpList_pushQ (v := u6) (q := ⟨f, A, m, c⟩) (gx := w5.heap.size) rfl _ _ rfl rfl rfl O6.out Q6.out HVA.out G6.out HBB6.out HLK.out ?_; intro v7 w7 hown7 hk7 hbl7; rw [HL2.out] at hown7; obtain ⟨A7, c7, rfl, hrq⟩ := hown7.rdQ; have O7 := Lib.hid hown7; have K7 := Lib.hid hk7; have HBL7 := Lib.hid hbl7; have RQ := Lib.hid hrq; clear hown7 hk7 hbl7 hrq)))
        have P7 : Hid (PrAt w7 gp F4 ⟨r4, 0⟩) := P6.out.kept K7.out (fun b hb e => HVF4.out b e hb)
        have B7 := Lib.hid (Keep.below B6.out K7.out B6.out.size (fun b e => (ownQ_lt O6.out e).1))
        have HV7 : Hid (∀ b, (Value.slice A7 l2.length c7).ownBlock = some b → ¬ F4 b) := fun b hb hf => by
          rcases HBL7.out b hb with h1 | h1
          · exact HVF4.out b h1 hf
          · have := P6.out.lt b hf; omega
        clear P6 B6 O6 Q6 G6 K7 HBL7 HVF4 HVA
        refine (rFormQ A7 l2.length c7 (l2.map QF.f) w7 RQ.out HS2.out (by rw [HLEN2.out]; omega)).mono ?_
        obtain ⟨fm, hfm⟩ : ∃ t, formF (l2.map QF.f) l2.length = t := ⟨_, rfl⟩
        have HFMM := Lib.hid hfm
        rw [hfm] at HFM0 ⊢
        clear hfm
        rintro e w8 ⟨A8, n8, c8, rfl, ho8, hc8, hc8', hn8, hb⟩
        replace P7 := Lib.hid (P7.out.to hb)
        replace O7 := Lib.hid (ownQ_to O7.out hb)
        replace B7 := Lib.hid (B7.out.trans (hb.mono B7.out.size))
        have U8 := Lib.hid ho8.1
        clear ho8 hb hc8 hc8'
        obtain ⟨q4, hq4⟩ : ∃ n, r4.length = n := ⟨_, rfl⟩
        have hlen : n8 + q4 = len0 := by
          have h1 := congrArg List.length HFM0.out
          rw [List.length_append, U8.out.1, R.out.1] at h1
          omega
        have HTK : Hid (decide (fm = bs.take n8) = true) := decide_eq_true (by rw [← HFM0.out]; exact (List.take_left' U8.out.1).symm)
        have hlt4 : (q4 : Int) < (rl : Int) := by
          have h1 : r4.length < rest.length := hless
          have h2 := HRL.out
          omega
        have hlv4 : leftV ⟨r4, 0⟩ = q4 := hq4
        have HLV4 := Lib.hid hlv4
        have HQ4 := Lib.hid hq4
        have he8 : (len0 : Int) - (q4 : Int) = (n8 : Int) := by omega
        have hsl := slice_h isU8 a0 (h := n8) (show n8 ≤ len0 by omega) hcap0
        have HN8 : Hid (n8 ≤ len0) := by (show _ ≤ _); omega
        clear hless hlv4 hq4 hlen
        go_wp2_with fail
        refine (pLeft gp F4 ⟨r4, 0⟩ w8 P7.out).mono ?_
        rw [HLV4.out]
        rintro e w9 ⟨rfl, hb⟩
        replace P7 := Lib.hid (P7.out.to hb)
        replace O7 := Lib.hid (ownQ_to O7.out hb)
        replace B7 := Lib.hid (B7.out.trans (hb.mono B7.out.size))
        replace U8 := Lib.hid (U8.out.to hb)
        clear hb
        go_wp2_with fail
        refine (pLeft gp F4 ⟨r4, 0⟩ w9 P7.out).mono ?_
        rw [HLV4.out]
        rintro e w10 ⟨rfl, hb⟩
        replace P7 := Lib.hid (P7.out.to hb)
        replace O7 := Lib.hid (ownQ_to O7.out hb)
        replace B7 := Lib.hid (B7.out.trans (hb.mono B7.out.size))
        replace U8 := Lib.hid (U8.out.to hb)
        clear hb
        go_wp2_with fail
        refine (wSame A8 a0 n8 n8 c8 cap0 w10.heap.size fm (bs.take n8) w10 U8.out (((R.out.below B7.out).more B7.out.size).front HN8.out)).mono ?_
        rw [HTK.out]
        rintro e w11 ⟨rfl, rfl⟩
        go_wp2_with fail
        go_roundw
        case rel =>
          refine ⟨r4, F4, l2, by rw [HLEN2.out]; omega, by rw [HLEN2.out]; go_num, P7.out, HF4.out, O7.out, HV7.out, HQ7.out, B7.out, by rw [HFMM.out]; exact HFM0.out, by rw [HLEN2.out]; exact HSUM2.out⟩
        case measure => simp [intOf]; omega
    · obtain rfl : k = len1 := by have := HLL.out; omega
      go_wp2_with fail
      go_ret
      exact ⟨rfl, B.out⟩

set_option maxRecDepth 100000 in
theorem lifted (os : Os) (started : os.Started) (H : Type) (enc : TypeId × Value → H) :
    ReturnsInHanded {} Try.checked os 8 .any (Rows.wireOneWaySpec.pre6 enc Try.prog Try.f8 Rows.wireOneWayRow.domain false) (Rows.wireOneWaySpec.post enc Try.prog Try.f8 false true false false) := by
  refine returnsInHanded_of_change (C := Try.checked) own started (by kernel_rfl) Try.func8
    (ChangeSpec.witness6 (enc := enc) (C := Try.checked) false ⟨#[], #[.slice none 0 0, .slice none 0 0], []⟩ 8 (by kernel_rfl) (by kernel_rfl) (by kernel_rfl) (by kernel_rfl)) ?_
  intro W base args ds gs before hval0 hW hcnd _
  have hval : ∀ (j : Nat) t v, Try.f8.params[j]? = some t → args[j]? = some v → Value.okWide Try.prog W .any base t v := hval0
  have hW' := hW
  obtain ⟨p, q, hA0, hV, rfl, hfz, hnd⟩ := hW
  have hA : DataW.TrodAll enc Try.prog W 0 (fun _ => true) true Try.f8.params.toList args.toList ds p := hA0
  rw [Try.params8] at hA hval
  obtain ⟨v0, vs0, d0, ds0, p0, q0, hargs, rfl, rfl, h0, r0⟩ := trodAll_cons hA
  obtain ⟨v1, vs1, d1, ds1, p1, q1, rfl, rfl, rfl, h1, r1⟩ := trodAll_cons r0
  obtain ⟨rfl, rfl, rfl⟩ := trodAll_nil r1
  obtain rfl : args = #[v0, v1] := by cases args; simp_all
  obtain ⟨rfl, rfl⟩ := trodVars_none hV
  obtain ⟨a0, len0, cap0, rfl⟩ := okWide_slice Try.underlying26 (hval 0 26 v0 rfl rfl)
  have k0 := h0
  have lt0 : ∀ x ∈ p0, x.block < W.heap.size := by obtain ⟨m, hm⟩ := k0; exact DataW.trod_lt m _ _ _ hm
  obtain ⟨z0, w0⟩ : ∃ zs, IsRow .u8 W a0 len0 cap0 zs := by
    obtain ⟨fuel, hf⟩ := h0
    rcases open_ints Try.underlying26 Try.underlying5 (by kernel_rfl) hf with ⟨hcs, _⟩ | ⟨x, l, c, zs, hcs, _, hl, hm, hz, _, hcell, hwz⟩
    · simp [Value.cells] at hcs
      obtain ⟨rfl, rfl, rfl⟩ := hcs
      exact ⟨[], .inl ⟨rfl, rfl, rfl, rfl⟩⟩
    · simp [Value.cells] at hcs
      obtain ⟨rfl, rfl, rfl⟩ := hcs
      exact ⟨zs, .inr ⟨_, rfl, hl, hm, by simpa using hz, hcell, hwz⟩⟩
  obtain ⟨a1, len1, cap1, rfl⟩ := okWide_slice Try.underlying67 (hval 1 67 v1 rfl rfl)
  have k1 := h1
  have lt1 : ∀ x ∈ p1, x.block < W.heap.size := by obtain ⟨m, hm⟩ := k1; exact DataW.trod_lt m _ _ _ hm
  obtain ⟨z1, w1⟩ : ∃ zs, IsRow .i64 W a1 len1 cap1 zs := by
    obtain ⟨fuel, hf⟩ := h1
    rcases open_ints Try.underlying67 Try.underlying3 (by kernel_rfl) hf with ⟨hcs, _⟩ | ⟨x, l, c, zs, hcs, _, hl, hm, hz, _, hcell, hwz⟩
    · simp [Value.cells] at hcs
      obtain ⟨rfl, rfl, rfl⟩ := hcs
      exact ⟨[], .inl ⟨rfl, rfl, rfl, rfl⟩⟩
    · simp [Value.cells] at hcs
      obtain ⟨rfl, rfl, rfl⟩ := hcs
      exact ⟨zs, .inr ⟨_, rfl, hl, hm, by simpa using hz, hcell, hwz⟩⟩
  clear hA0 hval0
  refine (walk a0 len0 cap0 z0 a1 len1 cap1 z1 W w0 w1).mono fun e W' ⟨he, bel⟩ => ?_
  subst he
  exact ⟨_, rfl, _, _, _, [], _, [], hW', trodAll_mk1 (shut_bool Try.underlying4 _), (trodAll_cons_mk (Below.trod laidOut (by kernel_rfl) (of_decide_eq_true (by kernel_rfl)) k0 bel lt0) (trodAll_cons_mk (Below.trod laidOut (by kernel_rfl) (of_decide_eq_true (by kernel_rfl)) k1 bel lt1) trodAll_mk0)), rfl, bel.frame _, fun h => by cases h⟩

theorem over : Rows.wireOneWayRow.holds Try.pinned (OpenSpec.ofChange Rows.wireOneWaySpec) :=
  OpenClaim.holds_of_wide 8 Try.f8 rfl rfl rfl rfl rfl rfl rfl ⟨rfl, rfl, rfl, rfl, rfl⟩ rfl rfl rfl rfl rfl (by kernel_rfl) Try.func8 (by kernel_rfl)
    (of_decide_eq_true (by kernel_rfl)) (by unfold Func.isWrapper; first | (rw [if_pos (by decide +kernel)]; kernel_rfl) | (rw [if_neg (by decide +kernel)]; exact ⟨rfl, rfl⟩))
    (fun os started H enc _ => lifted os started H enc)

theorem proved : Rows.WireOneWaySaid := over
end Go.Proofs.Ytmhknpkiddgcpaa.wireOneWay
