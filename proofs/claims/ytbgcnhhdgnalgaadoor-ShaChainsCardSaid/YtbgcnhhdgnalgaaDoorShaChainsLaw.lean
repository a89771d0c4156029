/- For any rows, at most 10 of at most 600 bytes in all, the law ShaChains of citadellaw03 returns true: Chain of sha answers as the chapter says, and the rows stay. Conditions: none beyond those that the statement itself prints. -/
import Derived.Test.YtbgcnhhdgnalgaaDoorRows
import Derived.Test.YtbgcnhhdgnalgaaDoorTie
import Derived.Test.YtbgcnhhdgnalgaaDoorCards
import Derived.Test.YtbgcnhhdgnalgaaDoorShaLaid
import Derived.Test.YtbgcnhhdgnalgaaDoorShaI
import Derived.Test.YtbgcnhhdgnalgaaDoorArrEq
import Derived.SizedLaws
import Derived.WalkKit
import Derived.ProofKit
import Derived.OpenShut
import Derived.ShutString
import Derived.ChangeOld
import Derived.Below
namespace Go.Proofs.YtbgcnhhdgnalgaaDoor.shaChains
open Go.ChangeShapes Go.WideShapes Go.ChangeAt Go.RowKit
open Go.ChangeMaps (open_string shut_string)
set_option linter.unusedVariables false
set_option linter.unusedSimpArgs false

theorem own : ownKnob Tryd.prog.godebug = none := by kernel_rfl
theorem laidOut : laidOutB Tryd.prog = true := by kernel_rfl

def AnyRel (n : Nat) (s i : Value) : Prop := ∃ (k : Nat) (z : Int), k ≤ n ∧ i = .int .i64 (k : Int) ∧ s = .int .i64 z
def TotRel (n : Nat) (bss : List (List UInt8)) (s i : Value) : Prop := ∃ k : Nat, k ≤ n ∧ i = .int .i64 (k : Int) ∧ s = .int .i64 ((tot bss k : Nat) : Int)
theorem tot_bound {bss : List (List UInt8)} {c : Nat} (hb : ∀ bs ∈ bss, bs.length ≤ c) : ∀ k, tot bss k ≤ k * c
  | 0 => by simp [tot]
  | k + 1 => by
    have ih := tot_bound hb k
    by_cases h : k < bss.length
    · have hm : bss.getD k [] ∈ bss := by
        simp [List.getD, List.getElem?_eq_getElem h]
      have := hb _ hm
      rw [tot_succ h, Nat.succ_mul]; omega
    · have e : tot bss (k + 1) = tot bss k := by
        unfold tot; rw [List.take_of_length_le (by omega), List.take_of_length_le (by omega)]
      rw [e, Nat.succ_mul]; omega
theorem rows_info : (Tryd.prog.info? 25).map (fun i => (i.zero, i.size, i.bytes)) = some (some (.slice none 0 0), 1, 24) := by kernel_rfl
/-- The copies so far. -/
def MineRel (w : World) (g n : Nat) (bss : List (List UInt8)) (i : Value) (wr : World) : Prop :=
  ∃ (k : Nat) (vs : List Value), k ≤ n ∧ i = .int .i64 (k : Int) ∧ wr.ownsRow w.heap.size 25 1 (.slice (some ⟨g, 0, none⟩) n n) n vs ∧
    (∀ j, j < k → ∃ A m c, vs[j]? = some (.slice A m c) ∧ Rd wr wr.heap.size A m (bss.getD j []) ∧ (∀ b o, A = some ⟨b, o, none⟩ → b ≠ g) ∧ m ≤ c ∧ c ≤ 9223372036854775807) ∧ Below w.heap.size w wr
theorem rd_ne {w : World} {B n : Nat} {A : Option Addr} {bs : List UInt8} (h : Rd w B A n bs) (a : Addr) (u : Value) (hne : ∀ b o, A = some ⟨b, o, none⟩ → b ≠ a.block) : Rd (w.setCell a u) B A n bs := by
  refine ⟨h.1, fun hn => ?_⟩
  obtain ⟨b, o, rfl, hb, _⟩ := h.2 hn
  exact (h.setOther a u (hne b o rfl)).2 hn
theorem same_quiet {A A' : Option Addr} {n m c d B : Nat} {xs : List UInt8} {w : World} (ha : Rd w B A n xs) (hb : Rd w B A' m xs) (hn : n ≤ 140737488355328) (hm : m ≤ 140737488355328) (q : Nat) :
    Calls Tryd.prog 10 #[.slice A n c, .slice A' m d] (w.drewN q) fun e w'' => e = .returned (.bool true) ∧ ∃ p, w'' = w.drewN p := by
  refine (refSameT A A' n m c d B xs xs (w.drewN q) rfl (ha.drewN q) (hb.drewN q) hn hm).mono ?_
  rintro e w1 ⟨rfl, p, rfl⟩
  exact ⟨rfl, q + p, World.drewN_drewN _ _ _⟩
def LastRel (n : Nat) (w : World) (i : Value) (wr : World) : Prop := ∃ k : Nat, k ≤ n ∧ i = .int .i64 (k : Int) ∧ ∃ q, wr = w.drewN q
set_option maxRecDepth 100000 in
set_option maxHeartbeats 4000000 in
theorem walk (a0 : Option Addr) (len0 cap0 : Nat) (bss0 : List (List UInt8)) (w : World) (hpr : Pr w) (w0 : RdS w w.heap.size a0 len0 bss0 ∧ len0 ≤ cap0 ∧ cap0 * 24 ≤ 140737488351232 ∧ ∀ bs ∈ bss0, bs.length ≤ 140737488351232) :
    Calls Tryd.prog 5 #[.slice a0 len0 cap0] w fun e w' => e = .returned (.bool true) ∧ Below w.heap.size w w' := by
  obtain ⟨hrd, hlc, hcap, hbs⟩ := w0
  have R := Lib.hid hrd
  have HB := Lib.hid hbs
  clear hrd hbs
  by_cases h10 : 10 < len0
  · go_enter Tryd.func5, Tryd.ntmps5
    go_wp2_with fail
    go_loop [3, 4] (fun s i => AnyRel len0 s i) (fun _ i => len0 - (intOf i).toNat)
    case atStart => exact ⟨0, 0, Nat.zero_le _, rfl, rfl⟩
    case round =>
      obtain ⟨k, z, hk, rfl, rfl⟩ := hrel
      by_cases hlt : k < len0
      · obtain ⟨b, o, rfl, hbo, hc⟩ := R.out.2 (by omega)
        obtain ⟨A', m, c, hcell, hr⟩ := hc k hlt
        clear hc hr
        go_wp2_with fail
        go_round
        case rel => exact ⟨k + 1, _, by omega, by go_num, rfl⟩
        case measure => simp [intOf]; omega
      · obtain rfl : k = len0 := by omega
        by_cases hz : 600 < z
        · go_wp2_with fail
          go_ret
          exact ⟨rfl, Below.refl _ _⟩
        · go_wp2_with fail
          go_ret
          exact ⟨rfl, Below.refl _ _⟩
  have hl10 : len0 ≤ 10 := by omega
  clear h10
  go_enter Tryd.func5, Tryd.ntmps5
  go_wp2_with fail
  go_loop [3, 4] (fun s i => TotRel len0 bss0 s i) (fun _ i => len0 - (intOf i).toNat)
  case atStart => exact ⟨0, Nat.zero_le _, rfl, rfl⟩
  case round =>
    obtain ⟨k, hk, rfl, rfl⟩ := hrel
    by_cases hlt : k < len0
    · obtain ⟨b, o, rfl, hbo, hc⟩ := R.out.2 (by omega)
      obtain ⟨A', m, c, hcell, hr⟩ := hc k hlt
      have hT := tot_succ (bss := bss0) (k := k) (by rw [R.out.1]; exact hlt)
      rw [hr.1] at hT
      have HT := Lib.hid hT
      have h1 := tot_bound HB.out (k + 1)
      have h2 := tot_bound HB.out k
      have hsum : tot bss0 k + m ≤ 1548112371863552 := by rw [← hT]; have : (k + 1) * 140737488351232 ≤ 11 * 140737488351232 := Nat.mul_le_mul_right _ (by omega); omega
      clear hc hr hT h1 h2
      generalize tot bss0 k = t0 at *
      go_wp2_with fail
      go_round
      case rel => exact ⟨k + 1, by omega, by go_num, by rw [HT.out]; go_num⟩
      case measure => simp [intOf]; omega
    · obtain rfl : k = len0 := by omega
      have hfl : tot bss0 k = bss0.flatten.length := by unfold tot; rw [List.take_of_length_le (by rw [R.out.1]; exact Nat.le_refl _)]
      rw [hfl]
      generalize hN : bss0.flatten.length = N at *
      have HN := Lib.hid hN
      clear hN hfl
      by_cases hz : (600 : Int) < (N : Int)
      · go_wp2_with fail
        go_ret
        exact ⟨rfl, Below.refl _ _⟩
      · have HFl : Hid (bss0.flatten.length ≤ 600) := by show _ ≤ _; have := HN.out; omega
        obtain ⟨i0, hi, hz0, hz1, hz2⟩ := info_parts rows_info
        go_wp2_with (at_make; refine wpList_make_full w rfl _ _ 46 rfl w.heap.size 25 i0 (.slice none 0 0) 1 Tryd.underlying46 hi hz0 hz1 _ _ _ _ k rfl rfl rfl rfl (by rw [hz2]; omega) (by unfold maxLen; omega) (Nat.le_refl _) ?_; intro w1 hown1 hgr1)
        have hb1 : Below w.heap.size w w1 := (Below.refl _ _).grown hgr1 (Nat.le_refl _) (fun k hk => by cases hk)
        have hg1 : w.heap.size < w1.heap.size := by
          rcases hown1.2 with ⟨h, _⟩ | ⟨g, cap, cur, hv, _, hh, _⟩
          · simp at h
          · simp only [Value.slice.injEq, Option.some.injEq, Addr.mk.injEq, and_true, true_and] at hv
            obtain ⟨rfl, rfl⟩ := hv
            exact heap_at_lt hh
        clear hi hz0 hz1 hz2 hgr1
        have O1 := Lib.hid hown1
        have B1 := Lib.hid hb1
        clear hown1 hb1
        go_loopw [6] (fun i wr => MineRel w w.heap.size k bss0 i wr) (fun i _ => k - (intOf i).toNat)
        case atStart => exact ⟨0, _, Nat.zero_le _, rfl, O1.out, fun j hj => absurd hj (Nat.not_lt_zero j), B1.out⟩
        case round =>
          obtain ⟨j, vs, hj, rfl, hown, hvs, hb⟩ := hrel
          have O := Lib.hid hown
          have V := Lib.hid hvs
          have B := Lib.hid hb
          clear hown hvs hb
          by_cases hlt : j < k
          · obtain ⟨b, o, rfl, hbo, hc⟩ := R.out.2 (by omega)
            obtain ⟨A', m, c', hcell0, hr⟩ := hc j hlt
            have hcell : wr.cell? ⟨b, o + j, none⟩ = some (.slice A' m c') := (B.out.cell hbo).trans hcell0
            have X := Lib.hid (hr.to B.out)
            have hm : m ≤ 140737488351232 := by
              rw [← hr.1]
              refine HB.out _ ?_
              simp [List.getD, List.getElem?_eq_getElem (show j < bss0.length by rw [R.out.1]; exact hlt)]
            have hsz := B.out.size
            have hgr : w.heap.size < wr.heap.size := by
              rcases O.out.2 with ⟨h, _⟩ | ⟨g, cap, cur, hv, _, hh, _⟩
              · simp at h
              · simp only [Value.slice.injEq, Option.some.injEq, Addr.mk.injEq, and_true, true_and] at hv
                obtain ⟨rfl, rfl⟩ := hv
                exact heap_at_lt hh
            clear hc hr hcell0
            go_wp2_with fail
            refine (refCopy A' m c' _ wr X.out (by omega)).mono ?_
            rintro e w2 ⟨A2, n2, c2, rfl, hown2, hb⟩
            have O2 := Lib.hid (own_below O.out hb)
            have N2 := Lib.hid (Rd.of_own hown2)
            have hA2 : ∀ b o, A2 = some ⟨b, o, none⟩ → b ≠ w.heap.size := by
              rintro b' o' rfl
              rcases hown2.2 with ⟨h, _⟩ | ⟨g, cap, cur, hv, hg, _⟩
              · simp at h
              · simp only [Value.slice.injEq, Option.some.injEq, Addr.mk.injEq, and_true] at hv
                have := hv.1.1; omega
            have HA2 := Lib.hid hA2
            have HCA := Lib.hid (own_cap hown2)
            have V2 : Hid (∀ i, i < j → ∃ A m c, vs[i]? = some (.slice A m c) ∧ Rd w2 w2.heap.size A m (bss0.getD i []) ∧ (∀ b o, A = some ⟨b, o, none⟩ → b ≠ w.heap.size) ∧ m ≤ c ∧ c ≤ 9223372036854775807) := fun i hi => by
              obtain ⟨A, m, c, h1, h2, h3, h5⟩ := V.out i hi
              exact ⟨A, m, c, h1, h2.to hb, h3, h5⟩
            have B2 := Lib.hid (B.out.trans (hb.mono B.out.size))
            have hlv : vs.length = k := by simpa using O.out.1
            have hc2 : w2.cell? ⟨w.heap.size, j, none⟩ = some (vs[j]'(by omega)) := by
              rw [O2.out.cellAt j (by omega)]; exact List.getElem?_eq_getElem _
            generalize vs[j]'(by omega) = vold at hc2
            have hf2 := O2.out.frozenAt j
            have HLV := Lib.hid hlv
            clear hown2 hb hA2 V O hlv
            go_wp2_with fail
            go_roundw
            case rel =>
              refine ⟨j + 1, vs.set j (.slice A2 n2 c2), by omega, by go_num, (O2.out.stored j _).1, ?_, B2.out.setCell (Nat.le_refl _) _⟩
              intro i hi
              by_cases hij : i = j
              · subst hij
                refine ⟨A2, n2, c2, by rw [List.getElem?_set_self (by rw [HLV.out]; exact hlt)], ?_, HA2.out, HCA.out⟩
                have := rd_ne N2.out ⟨w.heap.size, i, none⟩ (.slice A2 n2 c2) HA2.out
                exact this.more (by simp)
              · obtain ⟨A, m, c, h1, h2, h3, h5⟩ := V2.out i (by omega)
                refine ⟨A, m, c, by rw [List.getElem?_set_ne (fun h => hij h.symm)]; exact h1, ?_, h3, h5⟩
                have := rd_ne h2 ⟨w.heap.size, j, none⟩ (.slice A2 n2 c2) h3
                exact this.more (by simp)
            case measure => simp [intOf]; omega
          · obtain rfl : j = k := by omega
            have S : Hid (RdS wr wr.heap.size (some ⟨w.heap.size, 0, none⟩) j bss0) := by
              refine ⟨R.out.1, fun h0 => ⟨w.heap.size, 0, rfl, ?_, fun i hi => ?_⟩⟩
              · rcases O.out.2 with ⟨h, _⟩ | ⟨g, cap, cur, hv, _, hh, _⟩
                · simp at h
                · simp only [Value.slice.injEq, Option.some.injEq, Addr.mk.injEq, and_true, true_and] at hv
                  obtain ⟨rfl, rfl⟩ := hv
                  exact heap_at_lt hh
              · obtain ⟨A, m, c, h1, h2, _⟩ := V.out i hi
                refine ⟨A, m, c, ?_, h2⟩
                rw [Nat.zero_add, O.out.cellAt i (by omega)]; exact h1
            have L := Lib.hid (R.out.to B.out)
            have HP := Lib.hid (hpr.to B.out)
            have CS : Hid (CapS wr (some ⟨w.heap.size, 0, none⟩) j) := fun b o e i hi A1 n1 c1 hcc => by
              injection e with e
              injection e with e1 e2
              subst e1; subst e2
              obtain ⟨A, m, c, h1, _, _, h5⟩ := V.out i hi
              rw [Nat.zero_add, O.out.cellAt i (by omega), h1] at hcc
              injection hcc with hcc
              injection hcc with _ h6 h7
              subst h6; subst h7
              exact h5
            clear O V
            go_wp2_with fail
            refine (wChain _ j j bss0 wr HP.out S.out CS.out (Nat.le_refl _) (by omega) (by omega) (by have := HFl.out; omega)).mono ?_
            rintro e w3 ⟨rfl, hb⟩
            replace S := Lib.hid (S.out.to hb)
            replace L := Lib.hid (L.out.to hb)
            replace B := Lib.hid (B.out.trans (hb.mono B.out.size))
            clear hb
            go_wp2_with fail
            refine (rChain j a0 cap0 bss0 w3 L.out hlc (by omega) (by omega) (by have := HFl.out; omega)).mono ?_
            rintro e w4 ⟨rfl, hb⟩
            replace S := Lib.hid (S.out.to hb)
            replace L := Lib.hid (L.out.to hb)
            replace B := Lib.hid (B.out.trans (hb.mono B.out.size))
            clear hb
            have hcl := chainL_len bss0
            have heq : ∀ w', (Op.equalIn 10000 36 (.agg (arrB (chainL bss0))) (.agg (arrB (chainL bss0)))).run Tryd.prog w' = .ok (decide (chainL bss0 = chainL bss0)) w' := fun w' => run_eql_arrB (P := Tryd.prog) Tryd.underlying36 Tryd.underlying5 (sizeOf_one (by kernel_rfl)) _ _ hcl hcl w'
            rw [show decide (chainL bss0 = chainL bss0) = true from decide_eq_true rfl] at heq
            have hgd : Tryd.prog.eqGuardType Tryd.prog.depth 36 = false := by kernel_rfl
            generalize chainL bss0 = t at *
            go_wp2_with fail
            clear heq hgd
            go_loopw [7] (fun i wr => LastRel j w4 i wr) (fun i _ => j - (intOf i).toNat)
            case atStart => exact ⟨0, Nat.zero_le _, rfl, 0, rfl⟩
            case round =>
              obtain ⟨i, hi, rfl, hq⟩ := hrel
              have HQ := Lib.hid hq
              clear hq
              by_cases hlt : i < j
              · obtain ⟨b, o, rfl, hbo, hc⟩ := L.out.2 (by omega)
                obtain ⟨A1, m1, c1, hcell, hr⟩ := hc i hlt
                obtain ⟨b2, o2, e2, hbo2, hc2⟩ := S.out.2 (by omega)
                injection e2 with e2
                injection e2 with e3 e4
                obtain ⟨A2, m2, c2, hcell2, hr2⟩ := hc2 i hlt
                rw [← e3, ← e4, Nat.zero_add] at hcell2
                have f1 : wr.cell? ⟨b, o + i, none⟩ = some (.slice A1 m1 c1) := by obtain ⟨q, rfl⟩ := HQ.out; exact hcell
                have f2 : wr.cell? ⟨w.heap.size, i, none⟩ = some (.slice A2 m2 c2) := by obtain ⟨q, rfl⟩ := HQ.out; exact hcell2
                have r1 : Rd wr w4.heap.size A1 m1 (bss0.getD i []) := by obtain ⟨q, rfl⟩ := HQ.out; exact hr
                have r2 : Rd wr w4.heap.size A2 m2 (bss0.getD i []) := by obtain ⟨q, rfl⟩ := HQ.out; exact hr2
                have hm : (bss0.getD i []).length ≤ 140737488351232 := by
                  refine HB.out _ ?_
                  simp [List.getD, List.getElem?_eq_getElem (show i < bss0.length by rw [R.out.1]; exact hlt)]
                have SQ := Lib.hid (same_quiet (c := c2) (d := c1) r2 r1 (by rw [← r2.1]; omega) (by rw [← r1.1]; omega))
                clear hcell hr hc hcell2 hr2 hc2 r1 r2 hm e3 e4 hbo hbo2
                go_wp2_with fail
                go_quiet (first | (go_at_call 10; exact SQ.out _))
                go_wp2_with fail
                go_roundw
                case rel => exact ⟨i + 1, by omega, by go_num, by obtain ⟨q, rfl⟩ := HQ.out; exact ⟨q + nq, World.drewN_drewN _ _ _⟩⟩
                case measure => simp [intOf]; omega
              · obtain rfl : i = j := by omega
                have B5 : Hid (∀ wq : World, (∃ q, wq = w4.drewN q) → Below w.heap.size w wq) := by
                  rintro wq ⟨q, rfl⟩; exact below_drewN B.out q
                go_wp2_with fail
                go_ret
                exact ⟨rfl, B5.out _ HQ.out⟩

set_option maxRecDepth 100000 in
theorem lifted (os : Os) (started : os.Started) (H : Type) (enc : TypeId × Value → H) :
    ReturnsInHanded {} Tryd.checked os 5 .any (fun w args => (Rows.shaChainsSpec.pre enc Tryd.prog Tryd.f5 Rows.shaChainsRow.domain false w args ∧ laidMetH Tryd.prog Rows.shaChainsRow.laid w) ∧ sizedMet enc Tryd.prog Tryd.f5 (OpenSpec.ofChange Rows.shaChainsSpec) false w args)
      (Rows.shaChainsSpec.post enc Tryd.prog Tryd.f5 false true false false) := by
  refine returnsInHanded_of_change_and (C := Tryd.checked) (X := fun w _ => laidMetH Tryd.prog Rows.shaChainsRow.laid w) (fun _ _ _ hh h => h.of_heap hh) own started (by kernel_rfl) Tryd.func5
    (ChangeSpec.witness_shaped (enc := enc) (C := Tryd.checked) (os := os) (X := fun w _ => laidMetH Tryd.prog Rows.shaChainsRow.laid w) false (World.doorLaid Tryd.prog 400 os) #[.slice none 0 0] 8 rfl (World.shaped_of_RefB (by kernel_rfl) (by kernel_rfl)) (by kernel_rfl) (by kernel_rfl) (by kernel_rfl) (door_met os _)) ?_
  intro W base args ds gs before hval0 hW hcnd hsz0 hL _
  have hval : ∀ (j : Nat) t v, Tryd.f5.params[j]? = some t → args[j]? = some v → Value.okWide Tryd.prog W .any base t v := hval0
  have hsz : (DataW.weightsEach Tryd.prog (Tryd.f5.params.toList ++ Rows.shaChainsSpec.plain.varTypes Tryd.prog) (ds ++ gs)).all (· ≤ reachBytes) = true := hsz0
  have hW' := hW
  obtain ⟨p, q, hA0, hV, rfl, hfz, hnd⟩ := hW
  have hA : DataW.TrodAll enc Tryd.prog W 0 (fun _ => true) true Tryd.f5.params.toList args.toList ds p := hA0
  rw [Tryd.params5] at hA hval hsz
  obtain ⟨v0, vs0, d0, ds0, p0, q0, hargs, rfl, rfl, h0, r0⟩ := trodAll_cons hA
  obtain ⟨rfl, rfl, rfl⟩ := trodAll_nil r0
  obtain rfl : args = #[v0] := by cases args; simp_all
  obtain ⟨rfl, rfl⟩ := trodVars_none hV
  have sz0 : ∀ x ∈ d0.weights Tryd.prog 46, x ≤ reachBytes := fun x hx => by simpa using List.all_eq_true.1 hsz _ (DataW.weights_mem_each (j := 0) rfl rfl x hx)
  have k0 := h0
  have lt0 : ∀ x ∈ p0, x.block < W.heap.size := by obtain ⟨m, hm⟩ := k0; exact DataW.trod_lt m _ _ _ hm
  obtain ⟨a0, len0, cap0, bss0, rfl, w0⟩ := open_rowsS Tryd.underlying46 Tryd.underlying25 Tryd.underlying5 (by kernel_rfl) (by kernel_rfl) (by kernel_rfl) (by kernel_rfl) (hval 0 46 v0 rfl rfl) h0 sz0
  clear hA0 hval0
  refine (walk a0 len0 cap0 bss0 W (pr_of_laid hL) w0).mono fun e W' ⟨he, bel⟩ => ?_
  subst he
  exact ⟨_, rfl, _, _, _, [], _, [], hW', trodAll_mk1 (shut_bool Tryd.underlying4 _), (trodAll_cons_mk (Below.trod laidOut (by kernel_rfl) (of_decide_eq_true (by kernel_rfl)) k0 bel lt0) trodAll_mk0), rfl, bel.frame _, fun h => by cases h⟩

theorem over : Rows.shaChainsRow.holds Tryd.pinned (OpenSpec.ofChange Rows.shaChainsSpec) :=
  OpenClaim.holds_of_wide 5 Tryd.f5 rfl rfl rfl rfl rfl rfl rfl ⟨rfl, rfl, rfl, rfl, rfl⟩ rfl rfl rfl rfl rfl (by kernel_rfl) Tryd.func5 (by kernel_rfl)
    (of_decide_eq_true (by kernel_rfl)) (by unfold Func.isWrapper; first | (rw [if_pos (by decide +kernel)]; kernel_rfl) | (rw [if_neg (by decide +kernel)]; exact ⟨rfl, rfl⟩))
    (fun os started H enc _ => lifted os started H enc)

theorem wants : ∀ (j : Nat) t, Tryd.f5.params[j]? = some t → Tryd.prog.wantsStandIn t = false := by
  intro j t ht
  rw [Tryd.params5] at ht
  rcases j with _ | j
  · obtain rfl : 46 = t := by simpa using ht
    kernel_rfl
  simp at ht
theorem proved : Rows.ShaChainsCardSaid :=
  Claim7.holds_tied_plain_at .later [] [.data] true Rows.shaChainsCard.stood.harness Rows.shaChainsCard.stood.looks over (fun _ h => by cases h) (by kernel_rfl) (fun _ h => by cases h) shaChains_row_tie rfl ⟨rfl, rfl⟩ (by kernel_rfl) rfl
    (fun f fn hf hfn => by
      obtain rfl : f = 5 := Option.some.inj ((show Tryd.prog.funcNamed "citadel/citadellaw03.ShaChains" = some 5 by kernel_rfl).symm.trans hf) |>.symm
      obtain rfl : fn = Tryd.f5 := (Option.some.inj (Tryd.func5.symm.trans hfn)).symm
      exact ⟨by kernel_rfl, wants⟩)
    (by kernel_rfl)
end Go.Proofs.YtbgcnhhdgnalgaaDoor.shaChains
