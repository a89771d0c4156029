/- The document's disk (citadelref06): a crash. -/
import Derived.Test.YtbkdgciaapkemaaDiskR
import Derived.Deep.RegionHeld
namespace Go.Proofs.Ytbkdgciaapkemaa
open Go.RowKit
set_option linter.unusedVariables false
set_option linter.unusedSimpArgs false

theorem set_self {L : List Sec} {i : Nat} (hi : i < L.length) {s : Sec} (h : secAt L i = s) : L.set i s = L := by
  rw [← h, secAt_lt hi]
  exact List.set_getElem_self hi
theorem DS.ok.setSec {s : DS} (h : s.ok) {i : Nat} {f : List UInt8} {c : Option (List UInt8)} (hf : f.length = 64) (hc : ∀ b, c = some b → b.length = 64) {left : Nat} (hl : left ≤ 9223372036854775807) (up : Bool) (stay : List UInt8) : DS.ok ⟨s.L.set i (f, c), up, left, stay⟩ :=
  ⟨by simp only [List.length_set]; exact h.len, fun x hx => by
    rcases List.mem_or_eq_of_mem_set hx with hx | rfl
    · exact h.fl x hx
    · exact hf, fun x hx b hb => by
    rcases List.mem_or_eq_of_mem_set hx with hx | rfl
    · exact h.ca x hx b hb
    · exact hc b hb, hl⟩
/-- One of its slices written: a sector's bytes. -/
theorem vAt_set {vs : List (Value × Value)} {i j : Nat} (h : i < vs.length) (p : Value × Value) : vAt (vs.set i p) j = if i = j then p else vAt vs j := by
  unfold vAt
  simp only [List.getD, List.getElem?_set]
  by_cases e : i = j
  · subst e; simp [h]
  · simp [e]
theorem DrP.setP {w w' : World} {r lb cap : Nat} {vs : List (Value × Value)} {A : Option Addr} {m c : Nat} {F : Nat → Prop} {s : DS} (h : DrP w r lb cap vs A m c F s) {i : Nat} (hi : i < s.L.length) (hk : Keep (· = lb) w w') {p : Value × Value} {sec : Sec}
    (hrow : ∀ cur, w.heap[lb]? = some (.cells cur 70 (0, 0)) → ∃ cur', w'.heap[lb]? = some (.cells cur' 70 (0, 0)) ∧ cur'[i * 2]? = some p.1 ∧ cur'[i * 2 + 1]? = some p.2 ∧ ∀ j, j ≠ i * 2 → j ≠ i * 2 + 1 → cur'[j]? = cur[j]?)
    (hp : DrSec w r lb F p sec) (hl : sec.1.length = 64) (hc : ∀ b, sec.2 = some b → b.length = 64) : DrP w' r lb cap (vs.set i p) A m c F ⟨s.L.set i sec, s.up, s.left, s.stay⟩ := by
  have hb : ∀ k, F k → k ≠ lb → w'.heap[k]? = w.heap[k]? := fun k hf hn => hk.block k (h.lt k hf) hn
  have hiv : i < vs.length := by rw [h.len]; exact hi
  refine ⟨?_, ?_, ?_, fun j hj => ?_, ⟨rd_block h.stay.1 hk.size (fun b o hm e => hb b (h.soff b o hm e).1 (h.soff b o hm e).2.2), h.stay.2⟩, h.soff, h.fr, h.fl, h.rl, fun k hf => Nat.lt_of_lt_of_le (h.lt k hf) hk.size, ?_, h.ok.setSec hl hc h.ok.lt _ _⟩
  · simp only [List.length_set]
    exact (hb r h.fr h.rl).trans h.obj
  · simp only [List.length_set]
    exact h.len
  · obtain ⟨cur, h1, h2⟩ := h.row
    obtain ⟨cur', g1, g2, g3, g4⟩ := hrow cur h1
    refine ⟨cur', g1, fun j hj => ?_⟩
    simp only [List.length_set] at hj
    rw [vAt_set hiv]
    by_cases e : i = j
    · subst e
      rw [if_pos rfl]
      exact ⟨g2, g3⟩
    · rw [if_neg e, g4 _ (by omega) (by omega), g4 _ (by omega) (by omega)]
      exact h2 j hj
  · simp only [List.length_set] at hj
    simp only
    rw [vAt_set hiv, secAt_set hi]
    by_cases e : i = j
    · subst e
      rw [if_pos rfl, if_pos rfl]
      exact hp.block hk.size (fun k hf _ hn => hb k hf hn)
    · rw [if_neg e, if_neg e]
      exact (h.sec j hj).block hk.size (fun k hf _ hn => hb k hf hn)
  · simp only [List.length_set]
    exact h.cap
theorem row_set {w : World} {lb : Nat} {cur : Array Value} {T : TypeId} (h : w.heap[lb]? = some (.cells cur T (0, 0))) (o : Nat) (v : Value) : (w.setCell ⟨lb, o, none⟩ v).heap[lb]? = some (.cells (cur.setIfInBounds o v) T (0, 0)) := by
  rw [heap_setCell_same _ _ _ _ _ _ h]
/-- What was flushed of a sector, written. -/
theorem DrP.setF {w : World} {r lb cap : Nat} {vs : List (Value × Value)} {A : Option Addr} {m c : Nat} {F : Nat → Prop} {s : DS} (h : DrP w r lb cap vs A m c F s) {i : Nat} (hi : i < s.L.length) {v : Value} {bs : List UInt8} (hv : DrSl w r lb F v bs) (hl : bs.length = 64) :
    DrP (w.setCell ⟨lb, i * 2, none⟩ v) r lb cap (vs.set i (v, (vAt vs i).2)) A m c F ⟨s.L.set i (bs, (secAt s.L i).2), s.up, s.left, s.stay⟩ := by
  refine h.setP hi ((Keep.refl (· = lb) w).setCell ⟨lb, i * 2, none⟩ v rfl) (fun cur hcur => ?_) ⟨hv, (h.sec i hi).2⟩ hl (fun b hb => h.ok.secC hi hb)
  obtain ⟨cur0, h1, h2⟩ := h.row
  obtain rfl : cur = cur0 := by rw [hcur] at h1; injection h1 with h1; injection h1
  obtain ⟨h3, h4⟩ := h2 i hi
  refine ⟨_, row_set hcur _ _, ?_, ?_, fun j hj _ => ?_⟩
  · have : i * 2 < cur.size := (Array.getElem?_eq_some_iff.1 h3).1
    simp [this]
  · rw [Array.getElem?_setIfInBounds_ne (by omega)]; exact h4
  · rw [Array.getElem?_setIfInBounds_ne (by omega)]
/-- What the cache has for a sector, written. -/
theorem DrP.setC {w : World} {r lb cap : Nat} {vs : List (Value × Value)} {A : Option Addr} {m c : Nat} {F : Nat → Prop} {s : DS} (h : DrP w r lb cap vs A m c F s) {i : Nat} (hi : i < s.L.length) {v : Value} {x : Option (List UInt8)} (hv : (x = none → v = .slice none 0 0) ∧ ∀ b, x = some b → DrSl w r lb F v b ∧ b.length = 64) :
    DrP (w.setCell ⟨lb, i * 2 + 1, none⟩ v) r lb cap (vs.set i ((vAt vs i).1, v)) A m c F ⟨s.L.set i ((secAt s.L i).1, x), s.up, s.left, s.stay⟩ := by
  refine h.setP hi ((Keep.refl (· = lb) w).setCell ⟨lb, i * 2 + 1, none⟩ v rfl) (fun cur hcur => ?_) ⟨(h.sec i hi).1, hv.1, fun b hb => (hv.2 b hb).1⟩ (h.ok.secF hi) (fun b hb => (hv.2 b hb).2)
  obtain ⟨cur0, h1, h2⟩ := h.row
  obtain rfl : cur = cur0 := by rw [hcur] at h1; injection h1 with h1; injection h1
  obtain ⟨h3, h4⟩ := h2 i hi
  refine ⟨_, row_set hcur _ _, ?_, ?_, fun j _ hj => ?_⟩
  · rw [Array.getElem?_setIfInBounds_ne (by omega)]; exact h3
  · have : i * 2 + 1 < cur.size := (Array.getElem?_eq_some_iff.1 h4).1
    simp [this]
  · rw [Array.getElem?_setIfInBounds_ne (by omega)]
/-- Its own cells written. -/
theorem DrP.own {w w' : World} {r lb cap : Nat} {vs : List (Value × Value)} {A A' : Option Addr} {m c m' c' : Nat} {F : Nat → Prop} {s : DS} {up : Bool} {left : Nat} {stay : List UInt8} (h : DrP w r lb cap vs A m c F s) (hk : Keep (· = r) w w')
    (ho : w'.heap[r]? = some (.cells #[.slice (some ⟨lb, 0, none⟩) s.L.length cap, .bool (!up), .int .i64 (left : Int), .slice A' m' c'] 68 (0, 0)))
    (hs : Rd w w.heap.size A' m' stay ∧ m' ≤ 140737488355328 ∧ m' ≤ c' ∧ c' ≤ 9223372036854775807) (hso : ∀ b o, 0 < m' → A' = some ⟨b, o, none⟩ → F b ∧ b ≠ r ∧ b ≠ lb) (hl : left ≤ 9223372036854775807) :
    DrP w' r lb cap vs A' m' c' F ⟨s.L, up, left, stay⟩ := by
  have hb : ∀ k, F k → k ≠ r → w'.heap[k]? = w.heap[k]? := fun k hf hn => hk.block k (h.lt k hf) hn
  refine ⟨ho, h.len, ?_, fun j hj => (h.sec j hj).block hk.size (fun k hf hn _ => hb k hf hn), ⟨rd_block hs.1 hk.size (fun b o hm e => hb b (hso b o hm e).1 (hso b o hm e).2.1), hs.2⟩, hso, h.fr, h.fl, h.rl, fun k hf => Nat.lt_of_lt_of_le (h.lt k hf) hk.size, h.cap, ⟨h.ok.len, h.ok.fl, h.ok.ca, hl⟩⟩
  obtain ⟨cur, h1, h2⟩ := h.row
  exact ⟨cur, (hb lb h.fl (fun e => h.rl e.symm)).trans h1, h2⟩

theorem bit_int (x k : Nat) (hx : x < 256) : ((wrap64 (x : Int) / 2 ^ k).tmod 2 == 1) = decide (x / 2 ^ k % 2 = 1) := by
  have e0 : wrap64 (x : Int) = (x : Int) := IntWalk.wrap64_in _ ⟨by omega, by omega⟩
  have e : (x : Int) / 2 ^ k = ((x / 2 ^ k : Nat) : Int) := by rw [Int.natCast_ediv]; simp
  rw [e0, e, Int.tmod_eq_emod_of_nonneg (Int.natCast_nonneg _)]
  by_cases h : x / 2 ^ k % 2 = 1
  · rw [decide_eq_true h]
    have : ((x / 2 ^ k : Nat) : Int) % 2 = 1 := by omega
    rw [this]; rfl
  · rw [decide_eq_false h]
    have : ((x / 2 ^ k : Nat) : Int) % 2 = 0 := by omega
    rw [this]; rfl
theorem drSet1 {w : World} {r : Nat} {a b c d : Value} {T : TypeId} (h : w.heap[r]? = some (.cells #[a, b, c, d] T (0, 0))) (v : Value) : (w.setCell ⟨r, 1, none⟩ v).heap[r]? = some (.cells #[a, v, c, d] T (0, 0)) := by
  rw [heap_setCell_same _ _ _ _ _ _ h]; rfl
theorem drSet2 {w : World} {r : Nat} {a b c d : Value} {T : TypeId} (h : w.heap[r]? = some (.cells #[a, b, c, d] T (0, 0))) (v : Value) : (w.setCell ⟨r, 2, none⟩ v).heap[r]? = some (.cells #[a, b, v, d] T (0, 0)) := by
  rw [heap_setCell_same _ _ _ _ _ _ h]; rfl
theorem drSet3 {w : World} {r : Nat} {a b c d : Value} {T : TypeId} (h : w.heap[r]? = some (.cells #[a, b, c, d] T (0, 0))) (v : Value) : (w.setCell ⟨r, 3, none⟩ v).heap[r]? = some (.cells #[a, b, c, v] T (0, 0)) := by
  rw [heap_setCell_same _ _ _ _ _ _ h]; rfl
def FallRel (w : World) (r lb cap : Nat) (A : Option Addr) (m c : Nat) (F : Nat → Prop) (s : DS) (sel : Nat → Bool) (t i : Value) (wr : World) : Prop :=
  ∃ k vs, k ≤ s.L.length ∧ i = .int .i64 (k : Int) ∧ t = .int .i64 (rank s.L k : Int) ∧ DrP wr r lb cap vs A m c F ⟨fallTo sel s.L k, s.up, s.left, s.stay⟩ ∧ Keep (· = lb) w wr
theorem fallTo_same (sel : Nat → Bool) {L : List Sec} {i : Nat} (h : i < L.length) (hn : (secAt L i).2 = none) : fallTo sel L (i + 1) = fallTo sel L i := by
  rw [fallTo_succ sel h]
  refine set_self (by rw [fallTo_length]; exact h) ?_
  rw [fallTo_at sel h]
  unfold left1
  rw [hn]
  exact Prod.ext rfl hn

set_option maxRecDepth 1000000 in
set_option maxHeartbeats 1000000 in
theorem qFall (r lb cap : Nat) (vs : List (Value × Value)) (A : Option Addr) (m c : Nat) (F : Nat → Prop) (s : DS) (w : World) (h : DrP w r lb cap vs A m c F s) (A' : Option Addr) (m' c' : Nat) (st : List UInt8) (hr : Rd w w.heap.size A' m' st) (ho : ∀ b o, 0 < m' → A' = some ⟨b, o, none⟩ → b ≠ lb) :
    Calls Try.prog 55 #[.pointer (some ⟨r, 0, none⟩), .slice A' m' c'] w fun e w' => e = .returned (.tuple #[]) ∧ DrAt w' r F (s.fall (selB st)) ∧ Keep (fun k => k = r ∨ k = lb) w w' := by
  have H := Lib.hid h
  have R := Lib.hid hr
  have HO := Lib.hid ho
  obtain ⟨sel, hsel⟩ : ∃ sel, selB st = sel := ⟨_, rfl⟩
  have HSEL := Lib.hid hsel
  rw [hsel]
  clear h hr ho hsel
  go_enter Try.func55, Try.ntmps55
  go_wp2_with fail
  go_loopw [4, 5] (fun t i wr => FallRel w r lb cap A m c F s sel t i wr) (fun _ i _ => s.L.length - (intOf i).toNat)
  case atStart =>
    refine ⟨0, vs, Nat.zero_le _, rfl, ?_, ?_, Keep.refl _ _⟩
    · have : rank s.L 0 = 0 := by unfold rank dirtyL; simp [dirtyFrom]
      rw [this]; rfl
    · rw [fallTo_zero]; exact H.out
  case round =>
    obtain ⟨k, vs', hk, rfl, rfl, hp, hkeep⟩ := hrel
    have HP := Lib.hid hp
    have K1 := Lib.hid hkeep
    have HK := Lib.hid hk
    obtain ⟨c0, c1, c2, c3, _, _, _, _⟩ := drCell hp.obj
    simp only [fallTo_length] at c0
    have HN := Lib.hid hp.ok.len
    by_cases hlt : k < s.L.length
    · have HLT : Hid (k < s.L.length) := hlt
      obtain ⟨d0, d1, z0, z1⟩ := hp.cell (i := k) (by simp only [fallTo_length]; exact hlt)
      obtain ⟨e0, e1, e2⟩ := hp.sec k (by simp only [fallTo_length]; exact hlt)
      simp only [fallTo_at sel hlt] at e0 e1 e2
      have q := u8_nil
      have hkI : (k : Int) < 1025 := by have := HN.out; simp only [fallTo_length] at this; omega
      have hkn : (k : Int) < (s.L.length : Int) := by omega
      have HRK := Lib.hid (rank_succ hlt)
      have hrkI : (rank s.L k : Int) < 1025 := by have := rank_le s.L k; have := HN.out; simp only [fallTo_length] at this; omega
      cases hc : (secAt s.L k).2 with
      | none =>
        have HC := Lib.hid hc
        rw [e1 hc] at d1
        clear e0 e1 e2 hp hkeep hk c1 c2 c3 d0 z0 z1
        go_wp2_with fail
        go_roundw
        case rel =>
          refine ⟨k + 1, vs', HLT.out, by go_num, ?_, ?_, K1.out⟩
          · rw [HRK.out, HC.out]; rfl
          · rw [fallTo_same sel HLT.out HC.out]; exact HP.out
        case measure => have := HLT.out; simp [intOf]; omega
      | some bs =>
        have HC := Lib.hid hc
        have HE2 := Lib.hid (e2 bs hc)
        have HSL : Hid (rank s.L k < 1024) := by have h1 := rank_lt hlt; have := HN.out; simp only [fallTo_length] at this; show _ < _; omega
        have R1 : Hid (Rd wr wr.heap.size A' m' st) := R.out.kept K1.out (fun hn b o e hb => HO.out b o hn e hb)
        obtain ⟨b0, o0, cc, ev, _, _, _, _⟩ := e2 bs hc
        rw [ev] at d1
        clear e0 e1 e2 hp hkeep hk c1 c2 c3
        generalize hrn : rank s.L k = n at *
        have HRN := Lib.hid hrn
        clear hrn
        have HV0 : Hid ((vAt vs' k).2 = .slice (some ⟨b0, o0, none⟩) 64 cc) := ev
        have HSL0 : Hid (DrSl wr r lb F (.slice (some ⟨b0, o0, none⟩) 64 cc) bs) := by rw [← ev]; exact HE2.out
        by_cases hin : n / 8 < m'
        · obtain ⟨b, o, rfl, hbl, hcl⟩ := R1.out.2 (by omega)
          have hcell := hcl (n / 8) hin
          have hinI : (n : Int) / 8 < (m' : Int) := by omega
          have hbit : ((wrap64 (nth st (n / 8) : Int) / 2 ^ (n % 8)).tmod 2 == 1) = sel n := by rw [bit_int _ _ (nth_lt _ _), ← HSEL.out]; rfl
          clear hcl
          cases hs : sel n with
          | true =>
            have HS := Lib.hid hs
            rw [hs] at hbit
            clear hs ev
            go_wp2_with fail
            replace HP : Hid (DrP wr.drew r lb cap vs' A m c F ⟨fallTo sel s.L k, s.up, s.left, s.stay⟩) := HP.out.kept (R := fun _ => False) (Keep.refl _ _).drew (fun _ _ h => h)
            replace K1 := Lib.hid K1.out.drew
            replace HSL0 : Hid (DrSl wr.drew r lb F (.slice (some ⟨b0, o0, none⟩) 64 cc) bs) := HSL0.out.block (Nat.le_refl _) (fun _ _ _ _ => rfl)
            clear c0 d0 d1 z0 z1 HE2 R1
            generalize hwd : wr.drew = wd at *
            have HWD := Lib.hid hwd
            clear hwd
            obtain ⟨c0, _, _, _, _, _, _, _⟩ := drCell HP.out.obj
            simp only [fallTo_length] at c0
            obtain ⟨d0, d1, z0, z1⟩ := HP.out.cell (i := k) (by simp only [fallTo_length]; exact HLT.out)
            rw [HV0.out] at d1
            have C0 := Lib.hid c0
            have D1 := Lib.hid d1
            have HRL : Hid (r ≠ lb) := HP.out.rl
            refine wp_region_held_drew (S := (fun w' => w'.cell? ⟨r, 0, none⟩ = some (.slice (some ⟨lb, 0, none⟩) s.L.length cap) ∧ w'.cell? ⟨lb, k * 2 + 1, none⟩ = some (.slice (some ⟨b0, o0, none⟩) 64 cc))) (by kernel_rfl) ((by rw [HWD.out]; exact ⟨C0.out, D1.out⟩)) (fun hHeld => ?_)
            rw [HWD.out] at hHeld ⊢
            refine wpAnyH_take (i := 0) (v := ?_) rfl (by kernel_rfl) (by kernel_rfl) (by kernel_rfl) (fun _ _ _ h => h) (Or.inl ⟨by rfl, ?_⟩) (by assumption) ?_
            rotate_left 1
            · intro w hSw; (try dsimp only at hSw); go_simp; (try with_reducible rfl)
            simp only [Act.put, List.getElem_toArray, List.getElem_cons_zero, List.getElem_cons_succ, List.setIfInBounds_toArray, List.set_cons_zero, List.set_cons_succ]
            refine wpAnyH_take (i := 1) (v := ?_) rfl (by kernel_rfl) (by kernel_rfl) (by kernel_rfl) (fun _ _ _ h => h) (Or.inl ⟨by rfl, ?_⟩) (by assumption) ?_
            rotate_left 1
            · intro w hSw; (try dsimp only at hSw); go_simp; (try with_reducible rfl)
            simp only [Act.put, List.getElem_toArray, List.getElem_cons_zero, List.getElem_cons_succ, List.setIfInBounds_toArray, List.set_cons_zero, List.set_cons_succ]
            refine wpAnyH_take (i := 2) (v := ?_) rfl (by kernel_rfl) (by kernel_rfl) (by kernel_rfl) (fun _ _ _ h => h) (Or.inl ⟨by rfl, ?_⟩) (by assumption) ?_
            rotate_left 1
            · intro w hSw; (try dsimp only at hSw); go_simp; (try with_reducible rfl)
            simp only [Act.put, List.getElem_toArray, List.getElem_cons_zero, List.getElem_cons_succ, List.setIfInBounds_toArray, List.set_cons_zero, List.set_cons_succ]
            refine wpAnyH_take (i := 3) (v := ?_) rfl (by kernel_rfl) (by kernel_rfl) (by kernel_rfl) (fun _ _ _ h => h) (Or.inl ⟨by rfl, ?_⟩) (by assumption) ?_
            rotate_left 1
            · intro w hSw; (try dsimp only at hSw); (have x := hSw.1); clear hSw; go_simp; (try with_reducible rfl)
            simp only [Act.put, List.getElem_toArray, List.getElem_cons_zero, List.getElem_cons_succ, List.setIfInBounds_toArray, List.set_cons_zero, List.set_cons_succ]
            refine wpAnyH_take (i := 4) (v := ?_) rfl (by kernel_rfl) (by kernel_rfl) (by kernel_rfl) (fun _ _ _ h => h) (Or.inl ⟨by rfl, ?_⟩) (by assumption) ?_
            rotate_left 1
            · intro w hSw; (try dsimp only at hSw); go_simp; (try with_reducible rfl)
            simp only [Act.put, List.getElem_toArray, List.getElem_cons_zero, List.getElem_cons_succ, List.setIfInBounds_toArray, List.set_cons_zero, List.set_cons_succ]
            refine wpAnyH_take (i := 5) (v := ?_) rfl (by kernel_rfl) (by kernel_rfl) (by kernel_rfl) (fun _ _ _ h => h) (Or.inl ⟨by rfl, ?_⟩) (by assumption) ?_
            rotate_left 1
            · intro w hSw; (try dsimp only at hSw); go_simp; (try with_reducible rfl)
            simp only [Act.put, List.getElem_toArray, List.getElem_cons_zero, List.getElem_cons_succ, List.setIfInBounds_toArray, List.set_cons_zero, List.set_cons_succ]
            refine wpAnyH_take (i := 6) (v := ?_) rfl (by kernel_rfl) (by kernel_rfl) (by kernel_rfl) (fun _ _ _ h => h) (Or.inl ⟨by rfl, ?_⟩) (by assumption) ?_
            rotate_left 1
            · intro w hSw; (try dsimp only at hSw); go_simp; (try with_reducible rfl)
            simp only [Act.put, List.getElem_toArray, List.getElem_cons_zero, List.getElem_cons_succ, List.setIfInBounds_toArray, List.set_cons_zero, List.set_cons_succ]
            refine wpAnyH_take (i := 7) (v := ?_) rfl (by kernel_rfl) (by kernel_rfl) (by kernel_rfl) (fun _ _ _ h => h) (Or.inl ⟨by rfl, ?_⟩) (by assumption) ?_
            rotate_left 1
            · intro w hSw; (try dsimp only at hSw); go_simp; (try with_reducible rfl)
            simp only [Act.put, List.getElem_toArray, List.getElem_cons_zero, List.getElem_cons_succ, List.setIfInBounds_toArray, List.set_cons_zero, List.set_cons_succ]
            refine wpAnyH_take (i := 8) (v := ?_) rfl (by kernel_rfl) (by kernel_rfl) (by kernel_rfl) (fun _ _ _ h => h) (Or.inl ⟨by rfl, ?_⟩) (by assumption) ?_
            rotate_left 1
            · intro w hSw; (try dsimp only at hSw); (have x := hSw.1); clear hSw; go_simp; (try with_reducible rfl)
            simp only [Act.put, List.getElem_toArray, List.getElem_cons_zero, List.getElem_cons_succ, List.setIfInBounds_toArray, List.set_cons_zero, List.set_cons_succ]
            refine wpAnyH_take (i := 9) (v := ?_) rfl (by kernel_rfl) (by kernel_rfl) (by kernel_rfl) (fun _ _ _ h => h) (Or.inl ⟨by rfl, ?_⟩) (by assumption) ?_
            rotate_left 1
            · intro w hSw; (try dsimp only at hSw); go_simp; (try with_reducible rfl)
            simp only [Act.put, List.getElem_toArray, List.getElem_cons_zero, List.getElem_cons_succ, List.setIfInBounds_toArray, List.set_cons_zero, List.set_cons_succ]
            refine wpAnyH_take (i := 10) (v := ?_) rfl (by kernel_rfl) (by kernel_rfl) (by kernel_rfl) (fun _ _ _ h => h) (Or.inl ⟨by rfl, ?_⟩) (by assumption) ?_
            rotate_left 1
            · intro w hSw; (try dsimp only at hSw); go_simp; (try with_reducible rfl)
            simp only [Act.put, List.getElem_toArray, List.getElem_cons_zero, List.getElem_cons_succ, List.setIfInBounds_toArray, List.set_cons_zero, List.set_cons_succ]
            refine wpAnyH_take (i := 11) (v := ?_) rfl (by kernel_rfl) (by kernel_rfl) (by kernel_rfl) (fun _ _ _ h => h) (Or.inl ⟨by rfl, ?_⟩) (by assumption) ?_
            rotate_left 1
            · intro w hSw; (try dsimp only at hSw); go_simp; (try with_reducible rfl)
            simp only [Act.put, List.getElem_toArray, List.getElem_cons_zero, List.getElem_cons_succ, List.setIfInBounds_toArray, List.set_cons_zero, List.set_cons_succ]
            refine wpAnyH_take (i := 12) (v := ?_) rfl (by kernel_rfl) (by kernel_rfl) (by kernel_rfl) (fun _ _ _ h => h) (Or.inl ⟨by rfl, ?_⟩) (by assumption) ?_
            rotate_left 1
            · intro w hSw; (try dsimp only at hSw); (have x := hSw.2); clear hSw; go_simp; (try with_reducible rfl)
            simp only [Act.put, List.getElem_toArray, List.getElem_cons_zero, List.getElem_cons_succ, List.setIfInBounds_toArray, List.set_cons_zero, List.set_cons_succ]
            refine wpAnyH_take (i := 13) (v := ?_) rfl (by kernel_rfl) (by kernel_rfl) (by kernel_rfl) (fun _ _ _ h => h) (Or.inl ⟨by rfl, ?_⟩) (by assumption) ?_
            rotate_left 1
            · intro w hSw; (try dsimp only at hSw); go_simp; (try with_reducible rfl)
            simp only [Act.put, List.getElem_toArray, List.getElem_cons_zero, List.getElem_cons_succ, List.setIfInBounds_toArray, List.set_cons_zero, List.set_cons_succ]
            refine wpAnyH_take (i := 14) (v := ?_) rfl (by kernel_rfl) (by kernel_rfl) (by kernel_rfl) (fun _ _ _ h => h) (Or.inl ⟨by rfl, ?_⟩) (by assumption) ?_
            rotate_left 1
            · intro w hSw; (try dsimp only at hSw); go_simp; (try with_reducible rfl)
            simp only [Act.put, List.getElem_toArray, List.getElem_cons_zero, List.getElem_cons_succ, List.setIfInBounds_toArray, List.set_cons_zero, List.set_cons_succ]
            refine wpAnyH_ready (rs := [15]) (by kernel_rfl) (by simp) ?_
            refine AllReadyH.cons rfl (fun K hK => ?_) AllReadyH.nil
            go_simp
            refine hK.out _ _ (⟨(World.cell?_setCell_other _ _ _ _ (fun e => HRL.out (congrArg Addr.block e).symm)).trans C0.out, (World.cell?_setCell_other _ _ _ _ (fun e => by have h := congrArg Addr.off e; simp only at h; omega)).trans D1.out⟩) (fun hHeld => ?_)
            clear hK K
            refine wpAnyH_done (by kernel_rfl) ?_ _
            have P1 := Lib.hid (HP.out.setF (i := k) (by simp only [fallTo_length]; exact HLT.out) HSL0.out (H.out.ok.secC HLT.out HC.out))
            have K2 : Hid (Keep (· = lb) w (wd.setCell ⟨lb, k * 2, none⟩ (.slice (some ⟨b0, o0, none⟩) 64 cc))) := K1.out.setCell _ _ rfl
            clear hHeld c0 d0 d1 z0 z1 HP HSL0 C0 D1
            generalize wd.setCell ⟨lb, k * 2, none⟩ (.slice (some ⟨b0, o0, none⟩) 64 cc) = w5 at *
            have HLN : Hid ((secAt (fallTo sel s.L k) k).2 = (secAt s.L k).2) := by show _ = _; rw [fallTo_at sel HLT.out]
            have HLE : Hid (((fallTo sel s.L k).set k (bs, (secAt (fallTo sel s.L k) k).2)).length = s.L.length) := by show _ = _; rw [List.length_set, fallTo_length]
            obtain ⟨c0, _, _, _, _, _, _, _⟩ := drCell P1.out.obj
            simp only [HLE.out] at c0
            obtain ⟨d0, d1, z0, z1⟩ := P1.out.cell (i := k) (by rw [HLE.out]; exact HLT.out)
            have P2 := Lib.hid (P1.out.setC (i := k) (by rw [HLE.out]; exact HLT.out) (v := .slice none 0 0) (x := none) ⟨fun _ => rfl, fun b hb => by cases hb⟩)
            have HEND : Hid (((fallTo sel s.L k).set k (bs, (secAt (fallTo sel s.L k) k).2)).set k ((secAt ((fallTo sel s.L k).set k (bs, (secAt (fallTo sel s.L k) k).2)) k).1, none) = fallTo sel s.L (k + 1)) := by
              show _ = _
              rw [fallTo_succ sel HLT.out, List.set_set, secAt_set (by rw [fallTo_length]; exact HLT.out), if_pos rfl]
              have e : left1 sel (rank s.L k) (secAt s.L k) = bs := by unfold left1; rw [HC.out, HRN.out]; simp [HS.out]
              rw [e]
            go_wp2_with fail
            go_roundw
            case rel =>
              have P3 := P2.out
              rw [HEND.out] at P3
              have hr : Value.int IntKind.i64 ((n : Int) + 1) = .int .i64 (rank s.L (k + 1) : Int) := by rw [HRK.out, HC.out]; rfl
              exact ⟨k + 1, _, HLT.out, by go_num, hr, P3, K2.out.setCell _ _ rfl⟩
            case measure => have := HLT.out; simp [intOf]; omega
          | false =>
            have HS := Lib.hid hs
            rw [hs] at hbit
            clear hs ev
            have HLN : Hid ((secAt (fallTo sel s.L k) k) = secAt s.L k) := by show _ = _; rw [fallTo_at sel HLT.out]
            have P2 := Lib.hid (HP.out.setC (i := k) (by simp only [fallTo_length]; exact HLT.out) (v := .slice none 0 0) (x := none) ⟨fun _ => rfl, fun b hb => by cases hb⟩)
            have HEND : Hid ((fallTo sel s.L k).set k ((secAt (fallTo sel s.L k) k).1, none) = fallTo sel s.L (k + 1)) := by
              show _ = _
              rw [fallTo_succ sel HLT.out, HLN.out]
              have e : left1 sel (rank s.L k) (secAt s.L k) = (secAt s.L k).1 := by unfold left1; rw [HC.out, HRN.out]; simp [HS.out]
              rw [e]
            go_wp2_with fail
            go_roundw
            case rel =>
              have P3 := P2.out
              rw [HEND.out] at P3
              have hr : Value.int IntKind.i64 ((n : Int) + 1) = .int .i64 (rank s.L (k + 1) : Int) := by rw [HRK.out, HC.out]; rfl
              exact ⟨k + 1, _, HLT.out, by go_num, hr, P3, K1.out.setCell _ _ rfl⟩
            case measure => have := HLT.out; simp [intOf]; omega
        · have hs : sel n = false := by
            rw [← HSEL.out]
            unfold selB
            have h0 : nth st (n / 8) = 0 := by unfold nth; simp [List.getD, List.getElem?_eq_none (show st.length ≤ n / 8 by rw [R1.out.1]; omega)]
            rw [h0, Nat.zero_div]
            rfl
          have HS := Lib.hid hs
          have hinI : ¬ (n : Int) / 8 < (m' : Int) := by omega
          clear hs ev
          have HLN : Hid ((secAt (fallTo sel s.L k) k) = secAt s.L k) := by show _ = _; rw [fallTo_at sel HLT.out]
          have P2 := Lib.hid (HP.out.setC (i := k) (by simp only [fallTo_length]; exact HLT.out) (v := .slice none 0 0) (x := none) ⟨fun _ => rfl, fun b hb => by cases hb⟩)
          have HEND : Hid ((fallTo sel s.L k).set k ((secAt (fallTo sel s.L k) k).1, none) = fallTo sel s.L (k + 1)) := by
            show _ = _
            rw [fallTo_succ sel HLT.out, HLN.out]
            have e : left1 sel (rank s.L k) (secAt s.L k) = (secAt s.L k).1 := by unfold left1; rw [HC.out, HRN.out]; simp [HS.out]
            rw [e]
          go_wp2_with fail
          go_roundw
          case rel =>
            have P3 := P2.out
            rw [HEND.out] at P3
            have hr : Value.int IntKind.i64 ((n : Int) + 1) = .int .i64 (rank s.L (k + 1) : Int) := by rw [HRK.out, HC.out]; rfl
            exact ⟨k + 1, _, HLT.out, by go_num, hr, P3, K1.out.setCell _ _ rfl⟩
          case measure => have := HLT.out; simp [intOf]; omega
    · obtain rfl : k = s.L.length := by have := HK.out; omega
      rw [fallTo_all] at hp
      have e2 : (fallL sel 0 s.L).length = s.L.length := fallL_length _ _ _
      have HP := Lib.hid hp
      obtain ⟨c0, c1, c2, c3, z0, z1, z2, z3⟩ := drCell hp.obj
      simp only [e2] at c0
      have K1 := Lib.hid hkeep
      have hkI : (s.L.length : Int) < 1025 := by have := HN.out; simp only [fallTo_length] at this; omega
      clear hp hkeep hk e2
      go_wp2_with fail
      refine bodyPost_end (results_none rfl _ _ _) rfl ⟨rfl, ?_, ?_⟩
      · have hk : Keep (· = r) wr (((wr.setCell ⟨r, 1, none⟩ (.bool true)).setCell ⟨r, 2, none⟩ (.int .i64 0)).setCell ⟨r, 3, none⟩ (.slice none 0 0)) := (((Keep.refl (· = r) wr).setCell ⟨r, 1, none⟩ _ rfl).setCell ⟨r, 2, none⟩ _ rfl).setCell ⟨r, 3, none⟩ _ rfl
        have ho : (((wr.setCell ⟨r, 1, none⟩ (.bool true)).setCell ⟨r, 2, none⟩ (.int .i64 0)).setCell ⟨r, 3, none⟩ (.slice none 0 0)).heap[r]? = _ := drSet3 (drSet2 (drSet1 HP.out.obj (.bool true)) (.int .i64 0)) (.slice none 0 0)
        exact ⟨lb, cap, vs', none, 0, 0, HP.out.own (up := false) (left := 0) (stay := []) hk ho ⟨Rd.nil _ _ _, by omega, Nat.le_refl _, by omega⟩ (fun b o hm => absurd hm (Nat.lt_irrefl 0)) (Nat.zero_le _)⟩
      · exact (((K1.out.more (fun k h => .inr h)).setCell _ _ (.inl rfl)).setCell _ _ (.inl rfl)).setCell _ _ (.inl rfl)
end Go.Proofs.Ytbkdgciaapkemaa
