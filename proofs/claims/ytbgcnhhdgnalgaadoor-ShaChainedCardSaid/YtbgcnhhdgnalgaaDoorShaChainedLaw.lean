/- For any rows and bytes, at most 8 rows and 600 bytes in all, the law ShaChained of citadellaw03 returns true: what is put behind a chain asks for its fingerprint alone. Conditions: none beyond those that the statement itself prints. -/
import Derived.Test.YtbgcnhhdgnalgaaDoorRows
import Derived.Test.YtbgcnhhdgnalgaaDoorTie
import Derived.Test.YtbgcnhhdgnalgaaDoorCards
import Derived.Test.YtbgcnhhdgnalgaaDoorShaLaid
import Derived.Test.YtbgcnhhdgnalgaaDoorShaAwake
import Derived.Test.YtbgcnhhdgnalgaaDoorShaOpen
import Derived.SizedLaws
import Derived.WalkKit
import Derived.ProofKit
import Derived.OpenShut
import Derived.ShutString
import Derived.ChangeOld
import Derived.Below
namespace Go.Proofs.YtbgcnhhdgnalgaaDoor.shaChained
open Go.ChangeShapes Go.WideShapes Go.ChangeAt Go.RowKit
open Go.ChangeMaps (open_string shut_string)
set_option linter.unusedVariables false
set_option linter.unusedSimpArgs false

theorem own : ownKnob Tryd.prog.godebug = none := by kernel_rfl
theorem laidOut : laidOutB Tryd.prog = true := by kernel_rfl

def AnyRel (n : Nat) (s i : Value) : Prop := ∃ (k : Nat) (z : Int), k ≤ n ∧ i = .int .i64 (k : Int) ∧ s = .int .i64 z
def TotRel (n m : Nat) (bss : List (List UInt8)) (s i : Value) : Prop := ∃ k : Nat, k ≤ n ∧ i = .int .i64 (k : Int) ∧ s = .int .i64 ((m + tot bss k : Nat) : Int)
theorem tot_bound {bss : List (List UInt8)} {c : Nat} (hb : ∀ bs ∈ bss, bs.length ≤ c) : ∀ k, tot bss k ≤ k * c
  | 0 => by simp [tot]
  | k + 1 => by
    have ih := tot_bound hb k
    by_cases h : k < bss.length
    · have hm : bss.getD k [] ∈ bss := by
        simp [List.getD, List.getElem?_eq_getElem h]
      have := hb _ hm
      rw [tot_succ h, Nat.succ_mul]; omega
    · have e : tot bss (k + 1) = tot bss k := by
        unfold tot; rw [List.take_of_length_le (by omega), List.take_of_length_le (by omega)]
      rw [e, Nat.succ_mul]; omega
theorem two_rows {w : World} {A A1 : Option Addr} {n m : Nat} {xs ys : List UInt8} (ha : Rd w w.heap.size A n xs) (hb : Rd w w.heap.size A1 m ys) (d : Nat) :
    RdS (w.alloc (.cells #[.slice A n n, .slice A1 m d] 25)) (w.alloc (.cells #[.slice A n n, .slice A1 m d] 25)).heap.size (some ⟨w.heap.size, 0, none⟩) 2 [xs, ys] := by
  have S := RdS.lit (w := w) [.slice A n n, .slice A1 m d] 25 [xs, ys] rfl (fun j hj => by
    rcases j with _ | _ | j
    · exact ⟨_, _, _, rfl, ha⟩
    · exact ⟨_, _, _, rfl, hb⟩
    · simp at hj; omega)
  simpa using S
theorem chain_snoc {bss : List (List UInt8)} (h : 0 < bss.length) (bs : List UInt8) : chainL (bss ++ [bs]) = shaL (chainL bss ++ bs) := by
  cases bss with
  | nil => simp at h
  | cons x l => exact chainL_snoc x l bs
theorem new_cell (w : World) (v : Value) (T : TypeId) : ∀ j u, [v][j]? = some u → (w.alloc (.cells #[v] T)).cell? ⟨w.heap.size, 0 + j, none⟩ = some u := fun j u hu => by
  rcases j with _ | j
  · simp only [List.getElem?_cons_zero, Option.some.injEq] at hu
    subst hu
    rw [World.cell?_alloc_at _ _ _ _ (by rfl)]
    simp
  · simp at hu
theorem one_slice (A : Option Addr) (n c : Nat) : ∀ u ∈ [Value.slice A n c], u.oneCell' = true := fun u hu => by
  simp only [List.mem_singleton] at hu
  subst hu
  rfl
theorem size_le {B : Nat} {w w' : World} (h : Below B w w') (hB : B ≤ w.heap.size) (o : Obj) : B ≤ (w'.alloc o).heap.size := by
  have := h.size
  simp; omega
theorem rows_at (bss : List (List UInt8)) (bs : List UInt8) (j : Nat) (h : j < bss.length) : (bss ++ [bs]).getD j [] = bss.getD j [] := by
  simp [List.getD, List.getElem?_append_left h]
theorem rows_end (bss : List (List UInt8)) (bs : List UInt8) : (bss ++ [bs]).getD bss.length [] = bs := by
  simp [List.getD]
set_option maxRecDepth 100000 in
set_option maxHeartbeats 4000000 in
theorem walk (a0 : Option Addr) (len0 cap0 : Nat) (bss0 : List (List UInt8)) (a1 : Option Addr) (len1 cap1 : Nat) (z1 : List Int) (w : World) (hpr : Pr w) (w0 : RdS w w.heap.size a0 len0 bss0 ∧ len0 ≤ cap0 ∧ cap0 * 24 ≤ 140737488351232 ∧ (∀ bs ∈ bss0, bs.length ≤ 140737488351232) ∧ CapS w a0 len0) (w1 : IsRow .u8 w a1 len1 cap1 z1 ∧ cap1 ≤ 140737488351232) :
    Calls Tryd.prog 7 #[.slice a0 len0 cap0, .slice a1 len1 cap1] w fun e w' => e = .returned (.bool true) ∧ Below w.heap.size w w' := by
  obtain ⟨hrd, hlc, hcap, hbs, hcs⟩ := w0
  obtain ⟨w1, hcz⟩ := w1
  obtain ⟨r1, hcap1, hcap1'⟩ := w1.rd
  generalize bytesIn (z1.take len1) = bs at r1
  have R := Lib.hid hrd
  have C := Lib.hid hcs
  have RB := Lib.hid r1
  have HB := Lib.hid hbs
  clear hrd hbs hcs r1 w1
  go_enter Tryd.func7, Tryd.ntmps7
  go_wp2_with fail
  refine (awake w hpr).mono ?_
  rintro e w2 ⟨rfl, hb⟩
  have HP := Lib.hid (hpr.to hb)
  replace C := Lib.hid (C.out.below hb (fun b o e h0 => by obtain ⟨b', o', e', hb', _⟩ := R.out.2 h0; rw [e'] at e; injection e with e; injection e with e1 e2; omega))
  replace R := Lib.hid (R.out.to hb)
  replace RB := Lib.hid (RB.out.to hb)
  have B := Lib.hid hb
  clear hb hpr
  by_cases h8 : 8 < len0
  · go_wp2_with fail
    go_loop [5, 6] (fun s i => AnyRel len0 s i) (fun _ i => len0 - (intOf i).toNat)
    case atStart => exact ⟨0, _, Nat.zero_le _, rfl, rfl⟩
    case round =>
      obtain ⟨k, z, hk, rfl, rfl⟩ := hrel
      by_cases hlt : k < len0
      · obtain ⟨b, o, rfl, hbo, hc⟩ := R.out.2 (by omega)
        obtain ⟨A', m, c, hcell, hr⟩ := hc k hlt
        clear hc hr
        go_wp2_with fail
        go_round
        case rel => exact ⟨k + 1, _, by omega, by go_num, rfl⟩
        case measure => simp [intOf]; omega
      · obtain rfl : k = len0 := by omega
        by_cases hz : 600 < z
        · go_wp2_with fail
          go_ret
          exact ⟨rfl, B.out⟩
        · go_wp2_with fail
          go_ret
          exact ⟨rfl, B.out⟩
  have hl8 : len0 ≤ 8 := by omega
  clear h8
  have hlen1 : len1 ≤ 140737488351232 := by omega
  go_wp2_with fail
  go_loop [5, 6] (fun s i => TotRel len0 len1 bss0 s i) (fun _ i => len0 - (intOf i).toNat)
  case atStart => exact ⟨0, Nat.zero_le _, rfl, by simp [tot]⟩
  case round =>
    obtain ⟨k, hk, rfl, rfl⟩ := hrel
    by_cases hlt : k < len0
    · obtain ⟨b, o, rfl, hbo, hc⟩ := R.out.2 (by omega)
      obtain ⟨A', m, c, hcell, hr⟩ := hc k hlt
      have hT := tot_succ (bss := bss0) (k := k) (by rw [R.out.1]; exact hlt)
      rw [hr.1] at hT
      have HT := Lib.hid hT
      have h1 := tot_bound HB.out (k + 1)
      have hsum : tot bss0 k + m ≤ 1266637395161088 := by rw [← hT]; have : (k + 1) * 140737488351232 ≤ 9 * 140737488351232 := Nat.mul_le_mul_right _ (by omega); omega
      clear hc hr hT h1
      generalize tot bss0 k = t0 at *
      go_wp2_with fail
      go_round
      case rel => exact ⟨k + 1, by omega, by go_num, by rw [HT.out]; go_num⟩
      case measure => simp [intOf]; omega
    · obtain rfl : k = len0 := by omega
      have hfl : tot bss0 k = bss0.flatten.length := by unfold tot; rw [List.take_of_length_le (by rw [R.out.1]; exact Nat.le_refl _)]
      rw [hfl]
      obtain ⟨N, hN⟩ : ∃ N, len1 + bss0.flatten.length = N := ⟨_, rfl⟩
      rw [hN]
      have HN := Lib.hid hN
      clear hN hfl
      by_cases hz : (600 : Int) < (N : Int)
      · go_wp2_with fail
        go_ret
        exact ⟨rfl, B.out⟩
      · have HFl : Hid (len1 ≤ 600 ∧ bss0.flatten.length ≤ 600) := by have := HN.out; exact ⟨by omega, by omega⟩
        have hl1 : len1 ≤ 600 := HFl.out.1
        obtain ⟨i0, hi, hz0, hz1, hz2⟩ := info_parts rowsE_info
        have hVS : ∃ vs : List Value, vs.length = k ∧ (0 < k → ∃ b o', a0 = some ⟨b, o', none⟩ ∧ b < w2.heap.size ∧ ∀ j u, vs[j]? = some u → w2.cell? ⟨b, o' + j, none⟩ = some u) ∧
            ∀ j, j < k → ∃ A1 n1 c1, vs[j]? = some (.slice A1 n1 c1) ∧ Rd w2 w2.heap.size A1 n1 (bss0.getD j []) ∧ n1 ≤ c1 ∧ c1 ≤ 9223372036854775807 := by
          by_cases hk0 : k = 0
          · subst hk0
            exact ⟨[], rfl, fun h => absurd h (Nat.lt_irrefl 0), fun j hj => absurd hj (Nat.not_lt_zero j)⟩
          · obtain ⟨b, o, rfl, hbo, _⟩ := R.out.2 (by omega)
            obtain ⟨vs, h1, h2, h3⟩ := rows_vals R.out C.out
            exact ⟨vs, h1, fun _ => ⟨b, o, rfl, hbo, h2⟩, h3⟩
        obtain ⟨vs, hv1, hv2, hv3⟩ := hVS
        have HV2 := Lib.hid hv2
        have HV3 := Lib.hid hv3
        have HV4 : Hid (∀ u ∈ vs, u.oneCell' = true) := fun u hu => by
          obtain ⟨j, hj, rfl⟩ := List.getElem_of_mem hu
          obtain ⟨A1, n1, c1, h1, _⟩ := hv3 j (by omega)
          rw [List.getElem?_eq_getElem hj] at h1
          injection h1 with h1
          rw [h1]; rfl
        clear hv2 hv3
        have BT := Lib.hid (Below.refl w2.heap.size w2)
        by_cases hk0 : k = 0
        · have d0 : ((k : Int) == 0) = true := by simp [hk0]
          have d1 : (k : Int) = 0 := by omega
          have HK0 := Lib.hid hk0
          clear hk0 d1
          go_wp2_with (first
            | (at_make; refine wpList_make_own w2 rfl _ _ 46 rfl w2.heap.size 25 i0 (.slice none 0 0) 1 Tryd.underlying46 hi hz0 hz1 _ _ _ (k + 1) rfl rfl (by omega) (by rw [hz2]; omega) (by unfold maxLen; omega) (Nat.le_refl _) ?_; intro w3 hown3 hgr3; have hb3 := BT.out.grown hgr3 (Nat.le_refl _) (fun k hk => by cases hk))
            | (at_builtin; refine wpList_appendRows rfl (.tmp 37) (.tmp 38) rfl rfl rfl hown3 hv1 (fun h0 => by obtain ⟨b, o', e, hb, hc⟩ := HV2.out h0; exact ⟨b, o', e, fun j u hu => (hb3.cell hb).trans (hc j u hu)⟩) HV4.out hb3 hb3.size (by omega) ?_; intro v4 w4 hown4 hb4 hsz4)
            | (at_builtin; refine wpList_appendRows rfl (.tmp 40) (.tmp 42) rfl rfl rfl (hown4.alloc _) (news := [.slice a1 len1 cap1]) rfl (fun _ => ⟨w4.heap.size, 0, rfl, new_cell w4 _ _⟩) (one_slice _ _ _) (hb4.alloc hb4.size _) (size_le hb4 (Nat.le_refl _) _) (by omega) ?_; intro v5 w5 hown5 hb5 hsz5))
          rw [show 0 + k + 1 = k + 1 from by omega, List.nil_append] at hown5
          obtain ⟨A5, c7, rfl⟩ := own_slice hown5
          obtain ⟨g7, rfl, hg7⟩ := own_head hown5 (Nat.succ_pos _)
          have hcc7 := own_cap hown5
          have hbl : bss0.length = k := R.out.1
          have hall := rows_own (bss := bss0 ++ [bs]) hown5 (by simp [hbl]) (fun j hj => by
            by_cases hjk : j < k
            · obtain ⟨A1, n1, c1, h1, h2, h3⟩ := HV3.out j hjk
              refine ⟨A1, n1, c1, by rw [List.getElem?_append_left (by omega)]; exact h1, ?_, h3⟩
              rw [rows_at bss0 bs j (by omega)]
              exact h2.to hb5
            · obtain rfl : j = bss0.length := by omega
              refine ⟨a1, len1, cap1, by rw [List.getElem?_append_right (by omega)]; simp [hv1, hbl], ?_, hcap1, hcap1'⟩
              rw [rows_end]
              exact RB.out.to hb5)
          have ALL := Lib.hid hall.1
          have CAPS := Lib.hid hall.2
          have R5 := Lib.hid (R.out.to hb5)
          have C5 := Lib.hid (C.out.below hb5 (fun b o e h0 => by obtain ⟨b', o', e', hb', _⟩ := R.out.2 h0; rw [e'] at e; injection e with e; injection e with e1 e2; omega))
          have RB5 := Lib.hid (RB.out.to hb5)
          have HP5 := Lib.hid (HP.out.to hb5)
          have B5 := Lib.hid (B.out.trans (hb5.mono B.out.size))
          have hfb : bss0.flatten.length ≤ 600 := HFl.out.2
          have hll : bs.length ≤ 600 := by rw [RB.out.1]; exact hl1
          have hft : (bss0 ++ [bs]).flatten.length ≤ 1000000 := by rw [show (bss0 ++ [bs]).flatten = bss0.flatten ++ bs from by simp, List.length_append]; omega
          clear hall hown5 hown4 hb4 hb3 hown3 hgr3 hsz4 hsz5 HV2 HV3 HV4 hi hz0 hz1 hz2 hg7
          have hk0 := HK0.out
          have HCH : Hid (chainL (bss0 ++ [bs]) = shaL bs) := by
            obtain rfl : bss0 = [] := List.eq_nil_of_length_eq_zero (by omega)
            rfl
          refine (wChain (some ⟨g7, 0, none⟩) (k + 1) c7 (bss0 ++ [bs]) w5 HP5.out ALL.out CAPS.out hcc7.1 hcc7.2 (by omega) hft).mono ?_
          rintro e w6 ⟨rfl, hb⟩
          rw [HCH.out]
          replace RB5 := Lib.hid (RB5.out.to hb)
          replace HP5 := Lib.hid (HP5.out.to hb)
          replace B5 := Lib.hid (B5.out.trans (hb.mono B5.out.size))
          clear hb
          go_wp2_with fail
          refine (wSha a1 len1 cap1 bs w6 HP5.out RB5.out (by omega) hcap1 hcap1').mono ?_
          rintro e w7 ⟨rfl, hb⟩
          replace B5 := Lib.hid (B5.out.trans (hb.mono B5.out.size))
          clear hb
          have hgd : Tryd.prog.eqGuardType Tryd.prog.depth 36 = false := by kernel_rfl
          have heq := eq_tag (shaL_len bs)
          go_wp2_with fail
          go_ret
          exact ⟨rfl, B5.out⟩
        · have d0 : ((k : Int) == 0) = false := by simp [hk0]
          have HK0 := Lib.hid hk0
          clear hk0
          go_wp2_with (first
            | (at_make; refine wpList_make_own w2 rfl _ _ 46 rfl w2.heap.size 25 i0 (.slice none 0 0) 1 Tryd.underlying46 hi hz0 hz1 _ _ _ (k + 1) rfl rfl (by omega) (by rw [hz2]; omega) (by unfold maxLen; omega) (Nat.le_refl _) ?_; intro w3 hown3 hgr3; have hb3 := BT.out.grown hgr3 (Nat.le_refl _) (fun k hk => by cases hk))
            | (at_builtin; refine wpList_appendRows rfl (.tmp 37) (.tmp 38) rfl rfl rfl hown3 hv1 (fun h0 => by obtain ⟨b, o', e, hb, hc⟩ := HV2.out h0; exact ⟨b, o', e, fun j u hu => (hb3.cell hb).trans (hc j u hu)⟩) HV4.out hb3 hb3.size (by omega) ?_; intro v4 w4 hown4 hb4 hsz4)
            | (at_builtin; refine wpList_appendRows rfl (.tmp 40) (.tmp 42) rfl rfl rfl (hown4.alloc _) (news := [.slice a1 len1 cap1]) rfl (fun _ => ⟨w4.heap.size, 0, rfl, new_cell w4 _ _⟩) (one_slice _ _ _) (hb4.alloc hb4.size _) (size_le hb4 (Nat.le_refl _) _) (by omega) ?_; intro v5 w5 hown5 hb5 hsz5))
          rw [show 0 + k + 1 = k + 1 from by omega, List.nil_append] at hown5
          obtain ⟨A5, c7, rfl⟩ := own_slice hown5
          obtain ⟨g7, rfl, hg7⟩ := own_head hown5 (Nat.succ_pos _)
          have hcc7 := own_cap hown5
          have hbl : bss0.length = k := R.out.1
          have hall := rows_own (bss := bss0 ++ [bs]) hown5 (by simp [hbl]) (fun j hj => by
            by_cases hjk : j < k
            · obtain ⟨A1, n1, c1, h1, h2, h3⟩ := HV3.out j hjk
              refine ⟨A1, n1, c1, by rw [List.getElem?_append_left (by omega)]; exact h1, ?_, h3⟩
              rw [rows_at bss0 bs j (by omega)]
              exact h2.to hb5
            · obtain rfl : j = bss0.length := by omega
              refine ⟨a1, len1, cap1, by rw [List.getElem?_append_right (by omega)]; simp [hv1, hbl], ?_, hcap1, hcap1'⟩
              rw [rows_end]
              exact RB.out.to hb5)
          have ALL := Lib.hid hall.1
          have CAPS := Lib.hid hall.2
          have R5 := Lib.hid (R.out.to hb5)
          have C5 := Lib.hid (C.out.below hb5 (fun b o e h0 => by obtain ⟨b', o', e', hb', _⟩ := R.out.2 h0; rw [e'] at e; injection e with e; injection e with e1 e2; omega))
          have RB5 := Lib.hid (RB.out.to hb5)
          have HP5 := Lib.hid (HP.out.to hb5)
          have B5 := Lib.hid (B.out.trans (hb5.mono B.out.size))
          have hfb : bss0.flatten.length ≤ 600 := HFl.out.2
          have hll : bs.length ≤ 600 := by rw [RB.out.1]; exact hl1
          have hft : (bss0 ++ [bs]).flatten.length ≤ 1000000 := by rw [show (bss0 ++ [bs]).flatten = bss0.flatten ++ bs from by simp, List.length_append]; omega
          clear hall hown5 hown4 hb4 hb3 hown3 hgr3 hsz4 hsz5 HV2 HV3 HV4 hi hz0 hz1 hz2 hg7
          have hk0 := HK0.out
          have hk1 : 0 < k := by omega
          have HCH : Hid (chainL (bss0 ++ [bs]) = shaL (chainL bss0 ++ bs)) := chain_snoc (by omega) bs
          refine (wChain a0 k cap0 bss0 w5 HP5.out R5.out C5.out hlc (by omega) (by omega) (by omega)).mono ?_
          rintro e w6 ⟨rfl, hb⟩
          have hcl := chainL_len bss0
          obtain ⟨tg, htg⟩ : ∃ t, chainL bss0 = t := ⟨_, rfl⟩
          rw [htg] at hcl HCH ⊢
          have S1 := Lib.hid (tag_size hcl)
          have E1 : Hid ((arrB zeros32).size = (arrB tg).size) := by
            show _ = _
            rw [arrB_size, arrB_size, hcl]; rfl
          clear htg
          have hz := tag_zero
          go_wp2_with (refine wpList_store_row rfl 36 _ _ rfl w6.heap.size (arrB tg) rfl rfl 36 (arrB zeros32) (heap_alloc_last w6 _) S1.out E1.out (arrB_one _) ?_; rw [World.setRow_alloc_new])
          clear hz
          have HBK5 : Hid (∀ b o, (some ⟨g7, 0, none⟩ : Option Addr) = some ⟨b, o, none⟩ → 0 < k + 1 → b < w5.heap.size) := fun b o e h0 => by
            obtain ⟨b', o', e', hb', _⟩ := ALL.out.2 h0
            rw [e'] at e; injection e with e; injection e with e1 e2; omega
          have hba : Below w6.heap.size w6 (w6.alloc (.cells (arrB tg) 36)) := (Below.refl _ _).alloc (Nat.le_refl _) _
          have T8 : Hid (TagAt (w6.alloc (.cells (arrB tg) 36)) w6.heap.size tg) := ⟨hcl, heap_alloc_last w6 _⟩
          have hbz := hb.trans (hba.mono hb.size)
          replace CAPS := Lib.hid (CAPS.out.below hbz HBK5.out)
          replace ALL := Lib.hid (ALL.out.to hbz)
          replace RB5 := Lib.hid (RB5.out.to hbz)
          replace HP5 := Lib.hid (HP5.out.to hbz)
          replace B5 := Lib.hid (B5.out.trans (hbz.mono B5.out.size))
          have hsz6 := hbz.size
          clear hb hba hbz S1 E1 R5 C5
          generalize w6.heap.size = g8 at *
          generalize w6.alloc (.cells (arrB tg) 36) = w7 at *
          have HBK : Hid (∀ b o, (some ⟨g7, 0, none⟩ : Option Addr) = some ⟨b, o, none⟩ → 0 < k + 1 → b < w7.drew.heap.size) := fun b o e h0 => Nat.lt_of_lt_of_le (HBK5.out b o e h0) hsz6
          replace ALL : Hid (RdS w7.drew w7.drew.heap.size (some ⟨g7, 0, none⟩) (k + 1) (bss0 ++ [bs])) := ALL.out
          replace CAPS : Hid (CapS w7.drew (some ⟨g7, 0, none⟩) (k + 1)) := CAPS.out
          have RB' : Hid (Rd w7.drew w7.drew.heap.size a1 len1 bs) := RB5.out.drew'
          have HP' : Hid (Pr w7.drew) := HP5.out.drew
          have B0 : Hid (Below w.heap.size w w7.drew) := B5.out.drew
          replace T8 : Hid (TagAt w7.drew g8 tg) := T8.out
          clear RB RB5 HP HP5 B5 B HBK5 hsz6 R C BT
          have RB := RB'
          have HP := HP'
          clear RB' HP'
          have hcc1 : k + 1 ≤ c7 := hcc7.1
          have hcc2 : c7 ≤ 9223372036854775807 := hcc7.2
          have hcc3 : k + 1 ≤ 100000 := by omega
          have hcc4 := hft
          have hcat : [tg, bs].flatten.length ≤ 140737488355328 := by simp; omega
          have HFL : Hid ([tg, bs].flatten = tg ++ bs) := by (show _ = _); simp
          have HN8 : Hid (∀ q, (tg ++ bs).length = q → q ≤ 1000000000) := fun q hq => by rw [List.length_append] at hq; omega
          have hsa := tag_sliceAll g8
          have hgd : Tryd.prog.eqGuardType Tryd.prog.depth 36 = false := by kernel_rfl
          have heq := eq_tag (shaL_len (tg ++ bs))
          clear hcc7 hft hfb hbl hk0
          generalize hwx : w7.drew = w20 at *
          have HWX := Lib.hid hwx
          clear hwx
          have BT := Lib.hid (Below.refl w20.heap.size w20)
          refine wp_region_held_drew (S := (fun _ => True)) (by kernel_rfl) (trivial) (fun hHeld => ?_)
          rw [HWX.out]
          refine wpAnyH_take (i := 0) (v := ?_) rfl (by kernel_rfl) (by kernel_rfl) (by kernel_rfl) (fun _ _ _ h => h) (Or.inl ⟨by rfl, ?_⟩) (by assumption) ?_
          rotate_left 1
          · intro w hSw; (try dsimp only at hSw); go_simp; (try with_reducible rfl)
          simp only [Act.put, List.getElem_toArray, List.getElem_cons_zero, List.getElem_cons_succ, List.setIfInBounds_toArray, List.set_cons_zero, List.set_cons_succ]
          refine wpAnyH_take (i := 2) (v := ?_) rfl (by kernel_rfl) (by kernel_rfl) (by kernel_rfl) (fun _ _ _ h => h) (Or.inl ⟨by rfl, ?_⟩) (by assumption) ?_
          rotate_left 1
          · intro w hSw; (try dsimp only at hSw); go_simp; (try with_reducible rfl)
          simp only [Act.put, List.getElem_toArray, List.getElem_cons_zero, List.getElem_cons_succ, List.setIfInBounds_toArray, List.set_cons_zero, List.set_cons_succ]
          refine wpAnyH_take (i := 3) (v := ?_) rfl (by kernel_rfl) (by kernel_rfl) (by kernel_rfl) (fun _ _ _ h => h) (Or.inl ⟨by rfl, ?_⟩) (by assumption) ?_
          rotate_left 1
          · intro w hSw; (try dsimp only at hSw); go_simp; (try with_reducible rfl)
          simp only [Act.put, List.getElem_toArray, List.getElem_cons_zero, List.getElem_cons_succ, List.setIfInBounds_toArray, List.set_cons_zero, List.set_cons_succ]
          refine wpAnyH_ready (rs := [1, 4]) (by kernel_rfl) (by simp) ?_
          refine AllReadyH.cons rfl (fun K hK => ?_) (AllReadyH.cons rfl (fun K hK => ?_) AllReadyH.nil)
          · skip
            go_simp
            refine (wChain _ _ c7 (bss0 ++ [bs]) _ (HP.out.to BT.out) (ALL.out.to BT.out) (CAPS.out.below BT.out HBK.out) hcc1 hcc2 hcc3 hcc4).mono ?_
            rintro e w21 ⟨rfl, hb⟩
            rw [HCH.out]
            replace BT := Lib.hid (BT.out.trans (hb.mono BT.out.size))
            clear hb
            go_wp2_with fail
            refine hK.out _ _ (trivial) (fun hHeld => ?_)
            clear hK K
            clear hHeld
            refine wpAnyH_ready (rs := [4]) (by kernel_rfl) (by simp) ?_
            refine AllReadyH.cons rfl (fun K hK => ?_) AllReadyH.nil
            go_simp
            refine hK.out _ _ (trivial) (fun hHeld => ?_)
            clear hK K
            have S2 := Lib.hid (two_rows (w := w21) (T8.out.below BT.out).rd (RB.out.to BT.out) cap1)
            have hb : Below w21.heap.size w21 (w21.alloc (.cells #[.slice (some ⟨g8, 0, none⟩) 32 32, .slice a1 len1 cap1] 25)) := (Below.refl _ _).alloc (Nat.le_refl _) _
            replace BT := Lib.hid (BT.out.trans (hb.mono BT.out.size))
            clear hb hHeld
            obtain ⟨g9, hg9⟩ : ∃ g, w21.heap.size = g := ⟨_, rfl⟩
            rw [hg9] at S2 ⊢
            clear hg9
            generalize w21.alloc (.cells #[.slice (some ⟨g8, 0, none⟩) 32 32, .slice a1 len1 cap1] 25) = w22 at *
            refine wpAnyH_ready (rs := [5]) (by kernel_rfl) (by simp) ?_
            refine AllReadyH.cons rfl (fun K hK => ?_) AllReadyH.nil
            go_simp
            refine (wCat _ 2 2 [tg, bs] _ S2.out (by decide) hcat).mono ?_
            rintro e w23 ⟨A8, n8, c8, rfl, hown8, hb⟩
            rw [HFL.out] at hown8
            have Q := Lib.hid (Rd.of_own hown8)
            have HC8 := Lib.hid (own_cap hown8)
            have hn8 := HN8.out _ Q.out.1
            replace BT := Lib.hid (BT.out.trans (hb.mono BT.out.size))
            clear hb
            go_wp2_with fail
            refine hK.out _ _ (trivial) (fun hHeld => ?_)
            clear hK K
            clear hHeld hown8
            refine wpAnyH_ready (rs := [6]) (by kernel_rfl) (by simp) ?_
            refine AllReadyH.cons rfl (fun K hK => ?_) AllReadyH.nil
            go_simp
            refine (wSha A8 n8 c8 (tg ++ bs) _ (HP.out.to BT.out) Q.out hn8 HC8.out.1 HC8.out.2).mono ?_
            rintro e w24 ⟨rfl, hb⟩
            replace BT := Lib.hid (BT.out.trans (hb.mono BT.out.size))
            clear hb
            go_wp2_with fail
            refine hK.out _ _ (trivial) (fun hHeld => ?_)
            clear hK K
            clear hHeld
            refine wpAnyH_take (i := 7) (v := ?_) rfl (by kernel_rfl) (by kernel_rfl) (by kernel_rfl) (fun _ _ _ h => h) (Or.inl ⟨by rfl, ?_⟩) (by assumption) ?_
            rotate_left 1
            · intro w hSw; (try dsimp only at hSw); go_simp; (try with_reducible rfl)
            simp only [Act.put, List.getElem_toArray, List.getElem_cons_zero, List.getElem_cons_succ, List.setIfInBounds_toArray, List.set_cons_zero, List.set_cons_succ]
            refine wpAnyH_take (i := 8) (v := ?_) rfl (by kernel_rfl) (by kernel_rfl) (by kernel_rfl) (fun _ _ _ h => h) (Or.inl ⟨by rfl, ?_⟩) (by assumption) ?_
            rotate_left 1
            · intro w hSw; (try dsimp only at hSw); go_simp; (try with_reducible rfl)
            simp only [Act.put, List.getElem_toArray, List.getElem_cons_zero, List.getElem_cons_succ, List.setIfInBounds_toArray, List.set_cons_zero, List.set_cons_succ]
            refine wpAnyH_done (by kernel_rfl) ?_ _
            go_wp2_with fail
            go_ret
            exact ⟨rfl, B0.out.trans (BT.out.mono B0.out.size)⟩
          · skip
            go_simp
            refine hK.out _ _ (trivial) (fun hHeld => ?_)
            clear hK K
            have S2 := Lib.hid (two_rows (w := w20) (T8.out.below BT.out).rd (RB.out.to BT.out) cap1)
            have hb : Below w20.heap.size w20 (w20.alloc (.cells #[.slice (some ⟨g8, 0, none⟩) 32 32, .slice a1 len1 cap1] 25)) := (Below.refl _ _).alloc (Nat.le_refl _) _
            replace BT := Lib.hid (BT.out.trans (hb.mono BT.out.size))
            clear hb hHeld
            obtain ⟨g9, hg9⟩ : ∃ g, w20.heap.size = g := ⟨_, rfl⟩
            rw [hg9] at S2 ⊢
            clear hg9
            generalize w20.alloc (.cells #[.slice (some ⟨g8, 0, none⟩) 32 32, .slice a1 len1 cap1] 25) = w21 at *
            refine wpAnyH_ready (rs := [1]) (by kernel_rfl) (by simp) ?_
            refine AllReadyH.cons rfl (fun K hK => ?_) AllReadyH.nil
            go_simp
            refine (wChain _ _ c7 (bss0 ++ [bs]) _ (HP.out.to BT.out) (ALL.out.to BT.out) (CAPS.out.below BT.out HBK.out) hcc1 hcc2 hcc3 hcc4).mono ?_
            rintro e w22 ⟨rfl, hb⟩
            rw [HCH.out]
            replace BT := Lib.hid (BT.out.trans (hb.mono BT.out.size))
            replace S2 := Lib.hid (S2.out.to hb)
            clear hb
            go_wp2_with fail
            refine hK.out _ _ (trivial) (fun hHeld => ?_)
            clear hK K
            clear hHeld
            refine wpAnyH_ready (rs := [5]) (by kernel_rfl) (by simp) ?_
            refine AllReadyH.cons rfl (fun K hK => ?_) AllReadyH.nil
            go_simp
            refine (wCat _ 2 2 [tg, bs] _ S2.out (by decide) hcat).mono ?_
            rintro e w23 ⟨A8, n8, c8, rfl, hown8, hb⟩
            rw [HFL.out] at hown8
            have Q := Lib.hid (Rd.of_own hown8)
            have HC8 := Lib.hid (own_cap hown8)
            have hn8 := HN8.out _ Q.out.1
            replace BT := Lib.hid (BT.out.trans (hb.mono BT.out.size))
            clear hb
            go_wp2_with fail
            refine hK.out _ _ (trivial) (fun hHeld => ?_)
            clear hK K
            clear hHeld hown8
            refine wpAnyH_ready (rs := [6]) (by kernel_rfl) (by simp) ?_
            refine AllReadyH.cons rfl (fun K hK => ?_) AllReadyH.nil
            go_simp
            refine (wSha A8 n8 c8 (tg ++ bs) _ (HP.out.to BT.out) Q.out hn8 HC8.out.1 HC8.out.2).mono ?_
            rintro e w24 ⟨rfl, hb⟩
            replace BT := Lib.hid (BT.out.trans (hb.mono BT.out.size))
            clear hb
            go_wp2_with fail
            refine hK.out _ _ (trivial) (fun hHeld => ?_)
            clear hK K
            clear hHeld
            refine wpAnyH_take (i := 7) (v := ?_) rfl (by kernel_rfl) (by kernel_rfl) (by kernel_rfl) (fun _ _ _ h => h) (Or.inl ⟨by rfl, ?_⟩) (by assumption) ?_
            rotate_left 1
            · intro w hSw; (try dsimp only at hSw); go_simp; (try with_reducible rfl)
            simp only [Act.put, List.getElem_toArray, List.getElem_cons_zero, List.getElem_cons_succ, List.setIfInBounds_toArray, List.set_cons_zero, List.set_cons_succ]
            refine wpAnyH_take (i := 8) (v := ?_) rfl (by kernel_rfl) (by kernel_rfl) (by kernel_rfl) (fun _ _ _ h => h) (Or.inl ⟨by rfl, ?_⟩) (by assumption) ?_
            rotate_left 1
            · intro w hSw; (try dsimp only at hSw); go_simp; (try with_reducible rfl)
            simp only [Act.put, List.getElem_toArray, List.getElem_cons_zero, List.getElem_cons_succ, List.setIfInBounds_toArray, List.set_cons_zero, List.set_cons_succ]
            refine wpAnyH_done (by kernel_rfl) ?_ _
            go_wp2_with fail
            go_ret
            exact ⟨rfl, B0.out.trans (BT.out.mono B0.out.size)⟩

set_option maxRecDepth 100000 in
theorem lifted (os : Os) (started : os.Started) (H : Type) (enc : TypeId × Value → H) :
    ReturnsInHanded {} Tryd.checked os 7 .any (fun w args => (Rows.shaChainedSpec.pre enc Tryd.prog Tryd.f7 Rows.shaChainedRow.domain false w args ∧ laidMetH Tryd.prog Rows.shaChainedRow.laid w) ∧ sizedMet enc Tryd.prog Tryd.f7 (OpenSpec.ofChange Rows.shaChainedSpec) false w args)
      (Rows.shaChainedSpec.post enc Tryd.prog Tryd.f7 false true false false) := by
  refine returnsInHanded_of_change_and (C := Tryd.checked) (X := fun w _ => laidMetH Tryd.prog Rows.shaChainedRow.laid w) (fun _ _ _ hh h => h.of_heap hh) own started (by kernel_rfl) Tryd.func7
    (ChangeSpec.witness_shaped (enc := enc) (C := Tryd.checked) (os := os) (X := fun w _ => laidMetH Tryd.prog Rows.shaChainedRow.laid w) false (World.doorLaid Tryd.prog 400 os) #[.slice none 0 0, .slice none 0 0] 8 rfl (World.shaped_of_RefB (by kernel_rfl) (by kernel_rfl)) (by kernel_rfl) (by kernel_rfl) (by kernel_rfl) (door_met os _)) ?_
  intro W base args ds gs before hval0 hW hcnd hsz0 hL _
  have hval : ∀ (j : Nat) t v, Tryd.f7.params[j]? = some t → args[j]? = some v → Value.okWide Tryd.prog W .any base t v := hval0
  have hsz : (DataW.weightsEach Tryd.prog (Tryd.f7.params.toList ++ Rows.shaChainedSpec.plain.varTypes Tryd.prog) (ds ++ gs)).all (· ≤ reachBytes) = true := hsz0
  have hW' := hW
  obtain ⟨p, q, hA0, hV, rfl, hfz, hnd⟩ := hW
  have hA : DataW.TrodAll enc Tryd.prog W 0 (fun _ => true) true Tryd.f7.params.toList args.toList ds p := hA0
  rw [Tryd.params7] at hA hval hsz
  obtain ⟨v0, vs0, d0, ds0, p0, q0, hargs, rfl, rfl, h0, r0⟩ := trodAll_cons hA
  obtain ⟨v1, vs1, d1, ds1, p1, q1, rfl, rfl, rfl, h1, r1⟩ := trodAll_cons r0
  obtain ⟨rfl, rfl, rfl⟩ := trodAll_nil r1
  obtain rfl : args = #[v0, v1] := by cases args; simp_all
  obtain ⟨rfl, rfl⟩ := trodVars_none hV
  have sz0 : ∀ x ∈ d0.weights Tryd.prog 46, x ≤ reachBytes := fun x hx => by simpa using List.all_eq_true.1 hsz _ (DataW.weights_mem_each (j := 0) rfl rfl x hx)
  have sz1 : ∀ x ∈ d1.weights Tryd.prog 25, x ≤ reachBytes := fun x hx => by simpa using List.all_eq_true.1 hsz _ (DataW.weights_mem_each (j := 1) rfl rfl x hx)
  have k0 := h0
  have lt0 : ∀ x ∈ p0, x.block < W.heap.size := by obtain ⟨m, hm⟩ := k0; exact DataW.trod_lt m _ _ _ hm
  obtain ⟨a0, len0, cap0, bss0, rfl, w0⟩ := open_rowsC Tryd.underlying46 Tryd.underlying25 Tryd.underlying5 (by kernel_rfl) (by kernel_rfl) (by kernel_rfl) (by kernel_rfl) (hval 0 46 v0 rfl rfl) h0 sz0
  have k1 := h1
  have lt1 : ∀ x ∈ p1, x.block < W.heap.size := by obtain ⟨m, hm⟩ := k1; exact DataW.trod_lt m _ _ _ hm
  obtain ⟨a1, len1, cap1, z1, rfl, w1⟩ := open_u8z Tryd.underlying25 Tryd.underlying5 (by kernel_rfl) (by kernel_rfl) (hval 1 25 v1 rfl rfl) h1 sz1
  clear hA0 hval0
  refine (walk a0 len0 cap0 bss0 a1 len1 cap1 z1 W (pr_of_laid hL) w0 w1).mono fun e W' ⟨he, bel⟩ => ?_
  subst he
  exact ⟨_, rfl, _, _, _, [], _, [], hW', trodAll_mk1 (shut_bool Tryd.underlying4 _), (trodAll_cons_mk (Below.trod laidOut (by kernel_rfl) (of_decide_eq_true (by kernel_rfl)) k0 bel lt0) (trodAll_cons_mk (Below.trod laidOut (by kernel_rfl) (of_decide_eq_true (by kernel_rfl)) k1 bel lt1) trodAll_mk0)), rfl, bel.frame _, fun h => by cases h⟩

theorem over : Rows.shaChainedRow.holds Tryd.pinned (OpenSpec.ofChange Rows.shaChainedSpec) :=
  OpenClaim.holds_of_wide 7 Tryd.f7 rfl rfl rfl rfl rfl rfl rfl ⟨rfl, rfl, rfl, rfl, rfl⟩ rfl rfl rfl rfl rfl (by kernel_rfl) Tryd.func7 (by kernel_rfl)
    (of_decide_eq_true (by kernel_rfl)) (by unfold Func.isWrapper; first | (rw [if_pos (by decide +kernel)]; kernel_rfl) | (rw [if_neg (by decide +kernel)]; exact ⟨rfl, rfl⟩))
    (fun os started H enc _ => lifted os started H enc)

theorem wants : ∀ (j : Nat) t, Tryd.f7.params[j]? = some t → Tryd.prog.wantsStandIn t = false := by
  intro j t ht
  rw [Tryd.params7] at ht
  rcases j with _ | j
  · obtain rfl : 46 = t := by simpa using ht
    kernel_rfl
  rcases j with _ | j
  · obtain rfl : 25 = t := by simpa using ht
    kernel_rfl
  simp at ht
theorem proved : Rows.ShaChainedCardSaid :=
  Claim7.holds_tied_plain_at .later [] [.data] true Rows.shaChainedCard.stood.harness Rows.shaChainedCard.stood.looks over (fun _ h => by cases h) (by kernel_rfl) (fun _ h => by cases h) shaChained_row_tie rfl ⟨rfl, rfl⟩ (by kernel_rfl) rfl
    (fun f fn hf hfn => by
      obtain rfl : f = 7 := Option.some.inj ((show Tryd.prog.funcNamed "citadel/citadellaw03.ShaChained" = some 7 by kernel_rfl).symm.trans hf) |>.symm
      obtain rfl : fn = Tryd.f7 := (Option.some.inj (Tryd.func7.symm.trans hfn)).symm
      exact ⟨by kernel_rfl, wants⟩)
    (by kernel_rfl)
end Go.Proofs.YtbgcnhhdgnalgaaDoor.shaChained
