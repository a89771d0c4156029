/- Contracts of the program's hmac: Same, Seal, Open. -/
import Derived.Test.YtgkmkkfnpoapfaaDoorHmac
import Derived.Laws.CopyOwn
import Derived.Deep.RegionHeld
namespace Go.Proofs.YtgkmkkfnpoapfaaDoor
open Go.RowKit
set_option linter.unusedVariables false
set_option linter.unusedSimpArgs false

theorem or_u8 (a b : UInt8) : bits .or .u8 (a.toNat : Int) (b.toNat : Int) = ((a ||| b).toNat : Int) := by
  rw [UInt8.toNat_or]
  exact u8_or_nat _ _ a.toNat_lt b.toNat_lt
/-- What differs among the first bytes. -/
def orN (xs ys : List UInt8) : Nat → UInt8
  | 0 => 0
  | k + 1 => orN xs ys k ||| (xs.getD k 0 ^^^ ys.getD k 0)
theorem or_zero8 (a b : UInt8) : a ||| b = 0 ↔ a = 0 ∧ b = 0 := by
  constructor
  · intro h
    have h := congrArg UInt8.toBitVec h
    simp only [UInt8.toBitVec_or] at h
    have h1 : a.toBitVec = 0 ∧ b.toBitVec = 0 := by
      have := BitVec.or_eq_zero_iff.1 h
      exact this
    exact ⟨UInt8.toBitVec_inj.1 h1.1, UInt8.toBitVec_inj.1 h1.2⟩
  · rintro ⟨rfl, rfl⟩; rfl
theorem xor_zero8 (a b : UInt8) : a ^^^ b = 0 ↔ a = b := by
  constructor
  · intro h
    have h := congrArg UInt8.toBitVec h
    simp only [UInt8.toBitVec_xor] at h
    exact UInt8.toBitVec_inj.1 (BitVec.xor_eq_zero_iff.1 h)
  · rintro rfl; exact UInt8.xor_self
theorem orN_zero (xs ys : List UInt8) : ∀ k, orN xs ys k = 0 ↔ ∀ j, j < k → xs.getD j 0 = ys.getD j 0
  | 0 => ⟨fun _ j hj => absurd hj (Nat.not_lt_zero j), fun _ => rfl⟩
  | k + 1 => by
    rw [orN, or_zero8, xor_zero8, orN_zero xs ys k]
    constructor
    · rintro ⟨h1, h2⟩ j hj
      rcases Nat.lt_succ_iff_lt_or_eq.1 hj with h | rfl
      · exact h1 j h
      · exact h2
    · intro h
      exact ⟨fun j hj => h j (by omega), h k (by omega)⟩
theorem orN_same {xs ys : List UInt8} {n : Nat} (h1 : xs.length = n) (h2 : ys.length = n) : ((((orN xs ys n).toNat : Int) == 0) = decide (xs = ys)) := by
  have e : orN xs ys n = 0 ↔ xs = ys := by
    rw [orN_zero]
    constructor
    · intro h
      refine List.ext_getElem (by omega) fun i h3 h4 => ?_
      have := h i (by omega)
      simpa [List.getD, h3, h4] using this
    · rintro rfl j _; rfl
  rw [Bool.eq_iff_iff]
  simp only [beq_iff_eq, decide_eq_true_eq]
  rw [← e]
  constructor
  · intro h
    exact UInt8.toNat_inj.1 (by simpa using h)
  · intro h; rw [h]; rfl

def SameR (w0 : World) (xs ys : List UInt8) (d i : Value) (wr : World) : Prop :=
  ∃ (k q : Nat), k ≤ 32 ∧ i = .int .i64 (k : Int) ∧ d = .int .u8 ((orN xs ys k).toNat : Int) ∧ wr = w0.drewN q

set_option maxRecDepth 1000000 in
set_option maxHeartbeats 1000000 in
theorem wSameTag (x y : List UInt8) (w : World) (hx : x.length = 32) (hy : y.length = 32) :
    Calls Tryd.prog 19 #[.agg (arrB x), .agg (arrB y)] w fun e w' => e = .returned (.bool (decide (x = y))) ∧ Below w.heap.size w w' := by
  have HX := Lib.hid hx
  have HY := Lib.hid hy
  have HE := Lib.hid (orN_same hx hy)
  obtain ⟨h1, h2⟩ := two_blocks w (arrB x) (arrB y) 25
  have TX : Hid (TagAt ((w.alloc (.cells (arrB x) 25)).alloc (.cells (arrB y) 25)) w.heap.size x) := ⟨hx, h1⟩
  have TY : Hid (TagAt ((w.alloc (.cells (arrB x) 25)).alloc (.cells (arrB y) 25)) (w.heap.size + 1) y) := ⟨hy, h2⟩
  have B : Hid (Below w.heap.size w ((w.alloc (.cells (arrB x) 25)).alloc (.cells (arrB y) 25))) := ((Below.refl _ _).alloc (Nat.le_refl _) _).alloc (by simp) _
  clear h1 h2 hx hy
  go_enter Tryd.func19, Tryd.ntmps19
  go_wp2
  generalize ((w.alloc (.cells (arrB x) 25)).alloc (.cells (arrB y) 25)) = w0 at *
  go_loopw [5, 6, 7] (fun d _ i wr => SameR w0 x y d i wr) (fun _ _ i _ => 32 - (intOf i).toNat)
  case atStart => exact ⟨0, 0, Nat.zero_le _, rfl, rfl, rfl⟩
  case round =>
    obtain ⟨k, q, hk, rfl, rfl, rfl⟩ := hrel
    have HK := Lib.hid hk
    clear hk
    by_cases h32 : (k : Int) < 32
    · have hc1 := (TX.out.cell (j := k) (by omega)).1
      have hc2 := (TY.out.cell (j := k) (by omega)).1
      have hx := xor_u8 (x.getD k 0) (y.getD k 0)
      have ho := or_u8 (orN x y k) (x.getD k 0 ^^^ y.getD k 0)
      have HS : Hid (orN x y (k + 1) = orN x y k ||| (x.getD k 0 ^^^ y.getD k 0)) := rfl
      change bits .xor .u8 (nth x k : Int) (nth y k : Int) = _ at hx
      generalize x.getD k 0 ^^^ y.getD k 0 = z at *
      rw [← HS.out] at ho
      go_wp2
      go_quiet (fail)
      go_wp2
      go_roundw
      case rel => exact ⟨k + 1, _, by omega, by go_num, rfl, rfl⟩
      case measure => simp [intOf]; omega
    · obtain rfl : k = 32 := by have := HK.out; omega
      go_wp2
      go_ret
      exact ⟨by rw [← HE.out]; rfl, below_drewN B.out q⟩

set_option maxRecDepth 1000000 in
set_option maxHeartbeats 1000000 in
theorem wSeal (A A' : Option Addr) (n m c d : Nat) (k bs : List UInt8) (w : World) (hp : Pr w) (ha : Rd w w.heap.size A n k) (hb : Rd w w.heap.size A' m bs) (hn : n ≤ 1000000000) (hc : n ≤ c) (hc' : c ≤ 9223372036854775807) (hm : m ≤ 999999000) :
    Calls Tryd.prog 15 #[.slice A n c, .slice A' m d] w fun e w' => RetB 5 w (sealL k bs) e w' := by
  have hz := tag_zero
  have HE : Hid (sealL k bs = bs ++ hmacL k bs) := rfl
  have HL := Lib.hid (hmacL_len k bs)
  have R := Lib.hid ha
  have S := Lib.hid hb
  have P := Lib.hid hp
  clear ha hb hp
  go_enter Tryd.func15, Tryd.ntmps15
  go_wp2_with fail
  refine (wHmac A A' n m c d k bs w P.out R.out S.out hn hc hc' hm).mono ?_
  generalize hmacL k bs = t at *
  rintro e w1 ⟨rfl, hb⟩
  have B := Lib.hid hb
  replace S := Lib.hid (S.out.to hb)
  clear hb R P
  have S1 := Lib.hid (tag_size HL.out)
  have E1 : Hid ((arrB zeros32).size = (arrB t).size) := by
    show _ = _
    rw [arrB_size, arrB_size, HL.out]; rfl
  go_wp2_with (refine wpList_store_row rfl 25 _ _ rfl w1.heap.size (arrB t) rfl rfl 25 (arrB zeros32) (heap_alloc_last w1 _) S1.out E1.out (arrB_one _) ?_; rw [World.setRow_alloc_new])
  have hb1 : Below w1.heap.size w1 (w1.alloc (.cells (arrB t) 25)) := (Below.refl _ _).alloc (Nat.le_refl _) _
  have T1 : Hid (TagAt (w1.alloc (.cells (arrB t) 25)) w1.heap.size t) := ⟨HL.out, heap_alloc_last w1 _⟩
  replace S := Lib.hid (S.out.to hb1)
  replace B := Lib.hid (B.out.trans (hb1.mono B.out.size))
  clear hb1
  clear E1 hz
  have HSZ2 : Hid ((w1.alloc (.cells (arrB t) 25)).heap.size = w1.heap.size + 1) := by (show _ = _); simp
  generalize w1.heap.size = g at *
  generalize w1.alloc (.cells (arrB t) 25) = w2 at *
  have hsa := tag_sliceAll g
  go_wp2_with fail
  rw [← HSZ2.out]
  refine (wCat2 A' (some ⟨g, 0, none⟩) m 32 d 32 bs t w2 S.out T1.out.rd (by omega)).mono ?_
  rintro e w3 h
  rw [← HE.out] at h
  have H := Lib.hid (RetB.from B.out h)
  obtain ⟨A3, n3, c3, rfl, _, _⟩ := h
  go_wp2_with fail
  go_ret
  exact H.out

theorem open_eq {k s : List UInt8} {p : Nat} (hl : s.length = p + 32) : decide (s.drop p = hmacL k (s.take p)) = openOk k s := by
  unfold openOk
  rw [hl, decide_eq_true (show 32 ≤ p + 32 by omega), Bool.true_and, Nat.add_sub_cancel]
  congr 1
  refine propext ⟨fun h => ?_, fun h => ?_⟩
  · rw [sealL, ← h, List.take_append_drop]
  · have h2 : (sealL k (s.take p)).drop p = s.drop p := by rw [h]
    rw [sealL, List.drop_left' (by rw [List.length_take]; omega)] at h2
    exact h2.symm
theorem splice_all {cur cs : List Value} (h : cur.length = cs.length) : splice cur 0 cs = cs := by
  simp [splice, h]

set_option maxRecDepth 1000000 in
set_option maxHeartbeats 1000000 in
theorem wOpen (A A' : Option Addr) (n m c d : Nat) (k s : List UInt8) (w : World) (hp : Pr w) (ha : Rd w w.heap.size A n k) (hb : Rd w w.heap.size A' m s) (hn : n ≤ 1000000000) (hc : n ≤ c) (hc' : c ≤ 9223372036854775807) (hm : m ≤ 999999000) (hd : m ≤ d) (hd' : d ≤ 9223372036854775807) :
    Calls Tryd.prog 16 #[.slice A n c, .slice A' m d] w fun e w' => RetO w (openL k s) (openOk k s) e w' := by
  have hz := tag_zero
  have HA := Lib.hid ha
  have HB := Lib.hid hb
  have HPW := Lib.hid hp
  have T0 : Hid (TagAt (w.alloc (.cells (arrB zeros32) 25)) w.heap.size zeros32) := ⟨rfl, heap_alloc_last w _⟩
  have B : Hid (Below w.heap.size w (w.alloc (.cells (arrB zeros32) 25))) := (Below.refl _ _).alloc (Nat.le_refl _) _
  have R := Lib.hid (ha.to B.out)
  have S := Lib.hid (hb.to B.out)
  have P := Lib.hid (hp.to B.out)
  by_cases h32 : (m : Int) - 32 < 0
  · have e1 : openOk k s = false := by
      unfold openOk
      rw [hb.1, decide_eq_false (by omega)]; rfl
    have HE : Hid (openOk k s = false ∧ openL k s = []) := ⟨e1, by rw [openL, e1]; rfl⟩
    clear ha hb hp e1
    go_enter Tryd.func16, Tryd.ntmps16
    go_wp2_with fail
    go_ret2
    rw [HE.out.1, HE.out.2]
    exact ⟨_, _, _, rfl, OwR.nil _ _ _, Nat.le_refl _, by decide, B.out⟩
  · obtain ⟨p, rfl⟩ : ∃ p, m = p + 32 := ⟨m - 32, by omega⟩
    have e0 : ((p + 32 : Nat) : Int) - 32 = (p : Int) := by omega
    have HE : Hid (openL k s = if openOk k s = true then s.take p else []) := by
      show _ = _
      rw [openL, hb.1, Nat.add_sub_cancel]
    have HO := Lib.hid (open_eq (k := k) hb.1)
    have s0 := slice_h isU8 A' (h := p) (by omega) hd .i64
    obtain ⟨A5, c5, s5, hr5, hc5, hc5'⟩ := slice_l isU8 A' (l := p) (by omega) hd
    replace s5 := s5 .i64
    have HR5 := Lib.hid hr5
    rw [show p + 32 - p = 32 from by omega] at s5 HR5
    have hpn : ¬ (p : Int) < 0 := by omega
    have hrl : (s.drop p).length = 32 := by rw [List.length_drop, hb.1]; omega
    obtain ⟨tl, htl⟩ : ∃ l, s.drop p = l := ⟨_, rfl⟩
    rw [htl] at HO hrl
    have HTL := Lib.hid htl
    have HTH := Lib.hid (hmacL_len k (s.take p))
    have HRL := Lib.hid hrl
    clear ha hb hp hr5 htl hrl
    have hsa := tag_sliceAll w.heap.size
    go_enter Tryd.func16, Tryd.ntmps16
    go_wp2_with fail
    generalize w.alloc (.cells (arrB zeros32) 25) = w0 at *
    replace R := Lib.hid R.out.drew'
    replace S := Lib.hid S.out.drew'
    replace P : Hid (Pr w0.drew) := P.out
    replace T0 : Hid (TagAt w0.drew w.heap.size zeros32) := T0.out
    replace B := Lib.hid B.out.drew
    generalize hwd : w0.drew = wd at *
    have HWD := Lib.hid hwd
    clear hwd
    have hmin : (tl.map bval).length = Nat.min 32 32 := by rw [List.length_map, HRL.out]; rfl
    have hfit : 0 + (tl.map bval).length ≤ (zeros32.map bval).length := by rw [List.length_map, HRL.out, List.length_map]; decide
    have HSP : Hid (splice (zeros32.map bval) 0 (tl.map bval) = tl.map bval) := splice_all (by rw [List.length_map, List.length_map, HRL.out]; rfl)
    have R5 := HR5.out _ _ _ S.out
    rw [HTL.out] at R5
    obtain ⟨b5, o5, rfl, _, hc5v⟩ := R5.2 (by decide)
    have HC5 := Lib.hid hc5v
    clear hc5v R5 HR5
    refine wp_region_held_drew (S := (fun _ => True)) (by kernel_rfl) (trivial) (fun hHeld => ?_)
    rw [HWD.out]
    refine wpAnyH_take (i := 0) (v := ?_) rfl (by kernel_rfl) (by kernel_rfl) (by kernel_rfl) (fun _ _ _ h => h) (Or.inl ⟨by rfl, ?_⟩) (by assumption) ?_
    rotate_left 1
    · intro w hSw; (try dsimp only at hSw); go_simp; (try with_reducible rfl)
    simp only [Act.put, List.getElem_toArray, List.getElem_cons_zero, List.getElem_cons_succ, List.setIfInBounds_toArray, List.set_cons_zero, List.set_cons_succ]
    refine wpAnyH_take (i := 1) (v := ?_) rfl (by kernel_rfl) (by kernel_rfl) (by kernel_rfl) (fun _ _ _ h => h) (Or.inl ⟨by rfl, ?_⟩) (by assumption) ?_
    rotate_left 1
    · intro w hSw; (try dsimp only at hSw); go_simp; (try with_reducible rfl)
    simp only [Act.put, List.getElem_toArray, List.getElem_cons_zero, List.getElem_cons_succ, List.setIfInBounds_toArray, List.set_cons_zero, List.set_cons_succ]
    refine wpAnyH_take (i := 2) (v := ?_) rfl (by kernel_rfl) (by kernel_rfl) (by kernel_rfl) (fun _ _ _ h => h) (Or.inl ⟨by rfl, ?_⟩) (by assumption) ?_
    rotate_left 1
    · intro w hSw; (try dsimp only at hSw); go_simp; (try with_reducible rfl)
    simp only [Act.put, List.getElem_toArray, List.getElem_cons_zero, List.getElem_cons_succ, List.setIfInBounds_toArray, List.set_cons_zero, List.set_cons_succ]
    refine wpAnyH_take (i := 3) (v := ?_) rfl (by kernel_rfl) (by kernel_rfl) (by kernel_rfl) (fun _ _ _ h => h) (Or.inl ⟨by rfl, ?_⟩) (by assumption) ?_
    rotate_left 1
    · intro w hSw; (try dsimp only at hSw); go_simp; (try with_reducible rfl)
    simp only [Act.put, List.getElem_toArray, List.getElem_cons_zero, List.getElem_cons_succ, List.setIfInBounds_toArray, List.set_cons_zero, List.set_cons_succ]
    refine wpAnyH_ready (rs := [4]) (by kernel_rfl) (by simp) ?_
    refine AllReadyH.cons rfl (fun K hK => ?_) AllReadyH.nil
    refine step_copy_splice rfl (.tmp 17) (.tmp 20) 22 22 rfl 5 Tryd.underlying22 (by kernel_rfl) _ _ _ _ _ _ rfl rfl w.heap.size 0 (zeros32.map bval) 25 T0.out.2 (tl.map bval) hmin (fun _ => ⟨rfl, ⟨b5, o5, none⟩, rfl, rd_src HRL.out HC5.out⟩) hfit (bvals_one _) w.heap.size w B.out (Nat.le_refl _) ?_
    intro w6 hg6 hb6
    refine hK.out _ _ (trivial) (fun hHeld => ?_)
    clear hK K
    simp only [Act.put, List.getElem_toArray, List.getElem_cons_zero, List.getElem_cons_succ, List.setIfInBounds_toArray, List.set_cons_zero, List.set_cons_succ]
    refine wpAnyH_done (by kernel_rfl) ?_ _
    rw [HSP.out] at hg6
    have T6 : Hid (TagAt w6 w.heap.size tl) := ⟨HRL.out, hg6.out⟩
    have B6 := Lib.hid hb6
    have R6 := Lib.hid (HA.out.to hb6)
    have S6 := Lib.hid (HB.out.to hb6)
    have P6 := Lib.hid (HPW.out.to hb6)
    clear hg6 hb6 T0 R S P B hmin hfit HSP hsa HA HB HPW HC5 s5 hHeld
    have hu := Tryd.underlying25
    have hi : (Tryd.prog.info? 25).map (·.size) = some (tl.map bval).length := by rw [List.length_map, HRL.out]; exact (zero_of_info tag_info).2
    go_wp2_with fail
    replace R6 := Lib.hid R6.out.drew'
    replace S6 := Lib.hid S6.out.drew'
    replace P6 : Hid (Pr w6.drew) := P6.out
    replace T6 : Hid (TagAt w6.drew w.heap.size tl) := T6.out
    replace B6 := Lib.hid B6.out.drew
    generalize hwy : w6.drew = wy at *
    have HWY := Lib.hid hwy
    clear hwy
    refine wp_region_held_drew (S := (fun w' => w'.rangeAt w.heap.size 0 (tl.map bval))) (by kernel_rfl) ((by rw [HWY.out]; exact T6.out.range)) (fun hHeld => ?_)
    rw [HWY.out] at hHeld ⊢
    refine wpAnyH_take (i := 0) (v := .agg (List.toArray (tl.map bval))) rfl (by kernel_rfl) (by kernel_rfl) (by kernel_rfl) (fun _ _ _ h => h) (yieldsIf_load_mid (by rfl) 25 _ rfl w.heap.size 0 rfl (tl.map bval) _ (fun _ h => h) hu rfl hi) (by assumption) ?_
    simp only [Act.put, List.getElem_toArray, List.getElem_cons_zero, List.getElem_cons_succ, List.setIfInBounds_toArray, List.set_cons_zero, List.set_cons_succ]
    refine wpAnyH_take (i := 1) (v := ?_) rfl (by kernel_rfl) (by kernel_rfl) (by kernel_rfl) (fun _ _ _ h => h) (Or.inl ⟨by rfl, ?_⟩) (by assumption) ?_
    rotate_left 1
    · intro w hSw; (try dsimp only at hSw); go_simp; (try with_reducible rfl)
    simp only [Act.put, List.getElem_toArray, List.getElem_cons_zero, List.getElem_cons_succ, List.setIfInBounds_toArray, List.set_cons_zero, List.set_cons_succ]
    refine wpAnyH_take (i := 2) (v := ?_) rfl (by kernel_rfl) (by kernel_rfl) (by kernel_rfl) (fun _ _ _ h => h) (Or.inl ⟨by rfl, ?_⟩) (by assumption) ?_
    rotate_left 1
    · intro w hSw; (try dsimp only at hSw); go_simp; (try with_reducible rfl)
    simp only [Act.put, List.getElem_toArray, List.getElem_cons_zero, List.getElem_cons_succ, List.setIfInBounds_toArray, List.set_cons_zero, List.set_cons_succ]
    refine wpAnyH_ready (rs := [3]) (by kernel_rfl) (by simp) ?_
    refine AllReadyH.cons rfl (fun K hK => ?_) AllReadyH.nil
    go_simp
    refine (wHmac A A' n p c d k (s.take p) _ P6.out R6.out (S6.out.front (by omega)) hn hc hc' (by omega)).mono ?_
    generalize hmacL k (s.take p) = th at *
    rintro e w7 ⟨rfl, hb⟩
    replace T6 := Lib.hid (T6.out.below hb)
    replace S6 := Lib.hid (S6.out.to hb)
    replace B6 := Lib.hid (B6.out.trans (hb.mono B6.out.size))
    clear hb R6 P6
    go_wp2_with fail
    refine hK.out _ _ (T6.out.range) (fun hHeld => ?_)
    clear hK K
    refine wpAnyH_ready (rs := [4]) (by kernel_rfl) (by simp) ?_
    refine AllReadyH.cons rfl (fun K hK => ?_) AllReadyH.nil
    go_simp
    refine (wSameTag tl th _ HRL.out HTH.out).mono ?_
    rw [HO.out]
    rintro e w8 ⟨rfl, hb⟩
    replace T6 := Lib.hid (T6.out.below hb)
    replace S6 := Lib.hid (S6.out.to hb)
    replace B6 := Lib.hid (B6.out.trans (hb.mono B6.out.size))
    clear hb
    go_wp2_with fail
    refine hK.out _ _ (T6.out.range) (fun hHeld => ?_)
    clear hK K
    refine wpAnyH_take (i := 5) (v := ?_) rfl (by kernel_rfl) (by kernel_rfl) (by kernel_rfl) (fun _ _ _ h => h) (Or.inl ⟨by rfl, ?_⟩) (by assumption) ?_
    rotate_left 1
    · intro w hSw; (try dsimp only at hSw); go_simp; (try with_reducible rfl)
    simp only [Act.put, List.getElem_toArray, List.getElem_cons_zero, List.getElem_cons_succ, List.setIfInBounds_toArray, List.set_cons_zero, List.set_cons_succ]
    refine wpAnyH_done (by kernel_rfl) ?_ _
    clear hHeld T6 hu hi
    obtain ⟨b, hbk⟩ : ∃ b, openOk k s = b := ⟨_, rfl⟩
    rw [hbk]
    have HOK := Lib.hid hbk
    clear hbk
    cases b
    · go_wp2_with fail
      go_ret2
      rw [HE.out, HOK.out]
      exact ⟨_, _, _, rfl, OwR.nil _ _ _, Nat.le_refl _, by decide, B6.out⟩
    · go_wp2_with fail
      refine (wCat1 A' p d (s.take p) w8 (S6.out.front (by omega)) (by omega)).mono ?_
      rintro e w9 h
      have H := Lib.hid (RetR.from B6.out h.toR)
      obtain ⟨A3, n3, c3, rfl, _, _⟩ := h
      go_wp2_with fail
      go_ret2
      rw [HE.out, HOK.out]
      obtain ⟨A4, n4, c4, e4, h1, h2, h3, h4⟩ := H.out
      simp only [Ending.returned.injEq] at e4
      injection e4 with e5 e6 e7
      subst e5; subst e6; subst e7
      exact ⟨_, _, _, rfl, h1, h2, h3, h4⟩
end Go.Proofs.YtgkmkkfnpoapfaaDoor
