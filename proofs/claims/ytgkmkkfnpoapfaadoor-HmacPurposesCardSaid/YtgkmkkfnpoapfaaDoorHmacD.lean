/- The contract of the program's hmac.Derive: the rows of a purpose, one by one. -/
import Derived.Test.YtgkmkkfnpoapfaaDoorHmac
import Derived.Test.YtgkmkkfnpoapfaaDoorHmacRefD
import Derived.Test.YtgkmkkfnpoapfaaDoorShaOpen
namespace Go.Proofs.YtgkmkkfnpoapfaaDoor
open Go.RowKit
set_option linter.unusedVariables false
set_option linter.unusedSimpArgs false

theorem Rd.grown {w w' : World} {n : Nat} {A : Option Addr} {bs : List UInt8} {row : Option Nat} (h : Rd w w.heap.size A n bs) (hg : w.grownBy w' row) (hne : 0 < n → ∀ b o, A = some ⟨b, o, none⟩ → row ≠ some b) : Rd w' w'.heap.size A n bs :=
  ⟨h.1, fun hn => by
    obtain ⟨b, o, e, hb, hc⟩ := h.2 hn
    refine ⟨b, o, e, Nat.lt_of_lt_of_le hb hg.size, fun j hj => ?_⟩
    rw [← hc j hj]
    exact World.cell?_of_block (hg.block b hb (hne hn b o e).symm)⟩

/-- A row of the call's own that holds byte slices, none of them in the row's own block. -/
def RowsO (w : World) (B : Nat) (v : Value) (k : Nat) (rows : List (List UInt8)) : Prop :=
  ∃ vs, w.ownsRow B 22 1 v k vs ∧ rows.length = k ∧ ∀ j, j < k → ∃ A n c, vs[j]? = some (.slice A n c) ∧ Rd w w.heap.size A n (rows.getD j []) ∧ (0 < n → ∀ b o, A = some ⟨b, o, none⟩ → v.ownBlock ≠ some b) ∧ n ≤ c ∧ c ≤ 9223372036854775807
theorem RowsO.to {w w' : World} {B : Nat} {v : Value} {k : Nat} {rows : List (List UInt8)} (h : RowsO w B v k rows) (hb : Below w.heap.size w w') : RowsO w' B v k rows := by
  obtain ⟨vs, h1, h2, h3⟩ := h
  refine ⟨vs, own_below h1 hb, h2, fun j hj => ?_⟩
  obtain ⟨A, n, c, e, hr, hne, hc⟩ := h3 j hj
  exact ⟨A, n, c, e, hr.to hb, hne, hc⟩
theorem RowsO.lt {w : World} {B : Nat} {v : Value} {k : Nat} {rows : List (List UInt8)} (h : RowsO w B v k rows) (g : Nat) (hg : v.ownBlock = some g) : g < w.heap.size := by
  obtain ⟨vs, h1, _⟩ := h
  exact (h1.lt g hg).2
theorem RowsO.rdS {w : World} {B : Nat} {v : Value} {k : Nat} {rows : List (List UInt8)} (h : RowsO w B v k rows) (hk : 0 < k) : ∃ A c, v = .slice A k c ∧ RdS w w.heap.size A k rows := by
  obtain ⟨vs, h1, h2, h3⟩ := h
  obtain ⟨A, c, rfl⟩ := own_slice h1
  obtain ⟨g, rfl, _⟩ := own_head h1 hk
  refine ⟨_, c, rfl, (rows_own h1 h2 fun j hj => ?_).1⟩
  obtain ⟨A, n, c, e, hr, _, hc⟩ := h3 j hj
  exact ⟨A, n, c, e, hr, hc⟩

/-- 'rows = append(rows, row)'. -/
theorem wpList_rowsPush {ops : Array Oper} {rest : List Oper} {o : Oper} {a : Act} {Q : Exit → Act → World → Prop} (hgd : o.guard = none) (s x : Operand)
    (ho : o.op = .call { callee := .builtin .append, args := #[s, x], argTypes := #[46, 46] }) {B k n c : Nat} {A : Option Addr} {w wr : World} {v : Value} {rows : List (List UInt8)} {row : List UInt8} (hs : a.eval s = v)
    (hx : a.eval x = .slice (some ⟨wr.heap.size, 0, none⟩) 1 1) (hown : RowsO wr B v k rows) (hr : Rd wr wr.heap.size A n row) (hc : n ≤ c) (hc' : c ≤ 9223372036854775807) (hne : 0 < n → ∀ b o, A = some ⟨b, o, none⟩ → v.ownBlock ≠ some b)
    (hb : Below B w wr) (hB : B ≤ wr.heap.size) (hk : k + 1 ≤ 1000)
    (h : ∀ v' w1, RowsO w1 B v' (k + 1) (rows ++ [row]) → Below B w w1 → wr.heap.size ≤ w1.heap.size → wpList Tryd.prog ops Q rest (a.put o.dst v') w1) : wpList Tryd.prog ops Q (o :: rest) a (wr.alloc (.cells #[.slice A n c] 22)) := by
  obtain ⟨i0, hi, hz0, hz1, hz2⟩ := info_parts rowsE_info
  have hba : Below wr.heap.size wr (wr.alloc (.cells #[.slice A n c] 22)) := (Below.refl _ _).alloc (Nat.le_refl _) _
  obtain ⟨vs, h10, h2, h3⟩ := hown
  have h1 := own_below h10 hba
  have hsz : (wr.alloc (.cells #[.slice A n c] 22)).heap.size = wr.heap.size + 1 := by simp
  refine wpList_plain hgd fun K hK => ?_
  refine wp_append_lies _ s x _ ho B 22 i0 (.slice none 0 0) 1 24 Tryd.underlying46 hi hz0 hz1 hz2 rfl (by decide) v k _ hs h1 ⟨wr.heap.size, 0, none⟩ 1 1 [.slice A n c] hx rfl (cell_one_new _ _ _) ?_ (by decide) ?_ ?_ (by omega) _ rfl ?_
  · intro u hu; simp at hu; subst hu; rfl
  · unfold maxLen; omega
  · omega
  · intro g cap w1 hown' hgrow hg _
    have hnew : ∀ b, b < wr.heap.size → v.ownBlock ≠ some b → (Value.slice (some ⟨g, 0, none⟩) (k + 1) cap).ownBlock ≠ some b := by
      intro b hb' hb'' e
      simp only [Value.ownBlock, Option.some.injEq] at e
      subst e
      rcases hg with h | h
      · exact hb'' h
      · omega
    have hin : ∀ (A' : Option Addr) (m : Nat) (bs : List UInt8), 0 < m → Rd wr wr.heap.size A' m bs → ∀ b o, A' = some ⟨b, o, none⟩ → b < wr.heap.size := by
      intro A' m bs hm hr b o e
      obtain ⟨b', o', e', hb', _⟩ := hr.2 hm
      rw [e] at e'
      injection e' with e'; injection e' with e1 _
      omega
    have hall : ∀ (A' : Option Addr) (m : Nat) (bs : List UInt8), Rd wr wr.heap.size A' m bs → (0 < m → ∀ b o, A' = some ⟨b, o, none⟩ → v.ownBlock ≠ some b) →
        Rd w1 w1.heap.size A' m bs ∧ (0 < m → ∀ b o, A' = some ⟨b, o, none⟩ → (Value.slice (some ⟨g, 0, none⟩) (k + 1) cap).ownBlock ≠ some b) := fun A' m bs hr hne =>
      ⟨(hr.to hba).grown hgrow hne, fun hm b o e => hnew b (hin A' m bs hm hr b o e) (hne hm b o e)⟩
    refine hK _ _ (h _ w1 ⟨vs ++ [.slice A n c], hown', by rw [List.length_append, h2]; rfl, fun j hj => ?_⟩ ((hb.trans (hba.mono hB)).grown hgrow (by omega) (fun j hj => (h1.lt j hj).1)) (by have := hgrow.size; omega))
    have hvl : vs.length = k := by simpa using h1.1
    rcases Nat.lt_succ_iff_lt_or_eq.1 hj with hlt' | rfl
    · obtain ⟨A1, n1, c1, e1, hr1, hne1, hcc⟩ := h3 j hlt'
      obtain ⟨hx1, hx2⟩ := hall A1 n1 _ hr1 hne1
      exact ⟨A1, n1, c1, by rw [List.getElem?_append_left (by omega)]; exact e1, by rw [show (rows ++ [row]).getD j [] = rows.getD j [] from by simp [List.getD, List.getElem?_append_left (show j < rows.length by omega)]]; exact hx1, hx2, hcc⟩
    · obtain ⟨hx1, hx2⟩ := hall A n row hr hne
      exact ⟨A, n, c, by rw [← hvl]; simp, by rw [← h2]; simpa [List.getD] using hx1, hx2, hc, hc'⟩

/-- The rows of a purpose. -/
def rowsP (lab : List UInt8) (xs : List Int) : List (List UInt8) := [lab, [0]] ++ xs.map fun x => enc (u64N x) 8
theorem rowsP_flat (lab : List UInt8) (xs : List Int) : (rowsP lab xs).flatten = formI lab xs := by
  simp [rowsP, formI, formL, Function.comp_def]
theorem rowsP_snoc (lab : List UInt8) (xs : List Int) (x : Int) : rowsP lab (xs ++ [x]) = rowsP lab xs ++ [enc (u64N x) 8] := by
  simp [rowsP]

def DerRel (w : World) (lab : List UInt8) (xs : List Int) (n : Nat) (v i : Value) (wr : World) : Prop :=
  ∃ k : Nat, k ≤ n ∧ i = .int .i64 (k : Int) ∧ RowsO wr w.heap.size v (2 + k) (rowsP lab (xs.take k)) ∧ Below w.heap.size w wr

set_option maxRecDepth 1000000 in
set_option maxHeartbeats 1000000 in
theorem wDerive (A A' : Option Addr) (n m c d : Nat) (k : List UInt8) (s : ByteArray) (xs : List Int) (w : World) (hp : Pr w) (ha : Rd w w.heap.size A n k) (hb : RdI w w.heap.size A' m xs) (hn : n ≤ 1000000000) (hc : n ≤ c) (hc' : c ≤ 9223372036854775807) (hs : s.size ≤ 1000000) (hm : m ≤ 900) :
    Calls Tryd.prog 13 #[.slice A n c, .string s, .slice A' m d] w fun e w' => RetR w (hmacL k (formI s.data.toList xs)) e w' := by
  have R := Lib.hid ha
  have S := Lib.hid hb
  have P := Lib.hid hp
  have HL := Lib.hid (hmacL_len k (formI s.data.toList xs))
  have HFL := Lib.hid (formI_len s.data.toList xs)
  have HS := Lib.hid (data_len s)
  have hz := tag_zero
  have kc := Lib.run_convert_string_bytes (P := Tryd.prog) w 9 22 5 s Tryd.underlying9 Tryd.underlying22 Tryd.underlying5
  have hg1 := grownCap_ge w s.size 0 5
  have hg2 := grownCap_le_maxLen w s.size 0 5 (by unfold maxLen; omega)
  obtain ⟨c0, hc0⟩ : ∃ c0, grownCap w s.size 0 5 = c0 := ⟨_, rfl⟩
  rw [hc0] at kc hg1 hg2
  have L0 := Lib.hid (rd_bytesWorld w 5 s)
  have B0 := Lib.hid (Go.Joins.below_bytesWorld w.heap.size w 5 s (Nat.le_refl _))
  have HBS := Lib.hid (Lib.bytesWorld_size w 5 s)
  have HG0 := Lib.hid hg1
  have HG2 : Hid (c0 ≤ 9223372036854775807) := by (show _ ≤ _); unfold maxLen at hg2; omega
  obtain ⟨wb, hwb⟩ : ∃ wb, Lib.bytesWorld w 5 s = wb := ⟨_, rfl⟩
  rw [hwb] at kc L0 B0 HBS
  have hw1 : (wb.alloc (.cells #[.int .u8 0] 5)).heap.size = wb.heap.size + 1 := by simp
  have RO : Hid (RowsO ((wb.alloc (.cells #[.int .u8 0] 5)).alloc (.cells #[.slice (some ⟨w.heap.size, 0, none⟩) s.size c0, .slice (some ⟨wb.heap.size, 0, none⟩) 1 1] 22)) w.heap.size (.slice (some ⟨wb.heap.size + 1, 0, none⟩) 2 2) 2 (rowsP s.data.toList (xs.take 0))) := by
    have ho := own_top (w := wb.alloc (.cells #[.int .u8 0] 5)) (B := w.heap.size) [.slice (some ⟨w.heap.size, 0, none⟩) s.size c0, .slice (some ⟨wb.heap.size, 0, none⟩) 1 1] 22 (by rw [hw1]; have := B0.out.size; omega) (by intro u hu; simp at hu; rcases hu with rfl | rfl <;> rfl) (by simp)
    rw [hw1] at ho
    refine ⟨_, ho, rfl, fun j hj => ?_⟩
    rcases j with _ | _ | j
    · refine ⟨_, _, _, rfl, (L0.out.grow _).grow _, fun _ b o e => ?_, HG0.out, HG2.out⟩
      injection e with e; injection e with e1 _
      subst e1
      simp only [Value.ownBlock]
      intro h; injection h with h; have := HBS.out; omega
    · refine ⟨_, _, _, rfl, (show Rd (wb.alloc (.cells #[.int .u8 0] 5)) (wb.alloc (.cells #[.int .u8 0] 5)).heap.size _ _ [0] by rw [hw1]; exact Rd.lit [0] [.int .u8 0] _ rfl).grow _, fun _ b o e => ?_, by decide, by decide⟩
      injection e with e; injection e with e1 _
      subst e1
      simp only [Value.ownBlock]
      intro h; injection h with h; omega
    · omega
  have B1 : Hid (Below w.heap.size w ((wb.alloc (.cells #[.int .u8 0] 5)).alloc (.cells #[.slice (some ⟨w.heap.size, 0, none⟩) s.size c0, .slice (some ⟨wb.heap.size, 0, none⟩) 1 1] 22))) := (B0.out.alloc B0.out.size _).alloc (by rw [hw1]; have := B0.out.size; omega) _
  clear ha hb hp hc0 hwb hg1 hg2 L0 B0 HBS HG0 HG2 hw1
  go_enter Tryd.func13, Tryd.ntmps13
  go_wp2_with fail
  go_loopw [7, 9, 17] (fun v _ i wr => DerRel w s.data.toList xs m v i wr) (fun _ _ i _ => m - (intOf i).toNat)
  case atStart => exact ⟨0, Nat.zero_le _, rfl, RO.out, B1.out⟩
  case round =>
    obtain ⟨j, hj, rfl, hown, hb⟩ := hrel
    have HO := Lib.hid hown
    have HB := Lib.hid hb
    have HK := Lib.hid hj
    clear hown hb hj RO B1 kc
    by_cases hlt : j < m
    · obtain ⟨b, o, rfl, hbo, hcc⟩ := S.out.2 (by omega)
      have hcell : wr.cell? ⟨b, o + j, none⟩ = some (.int .i64 (xs.getD j 0)) := (HB.out.cell hbo).trans (hcc j hlt)
      clear hcc
      have HE := Lib.hid (take_snoc_I (xs := xs) (k := j) (by rw [S.out.1]; exact hlt))
      have h64 : IntKind.u64.wrap (xs.getD j 0) = (u64N (xs.getD j 0) : Int) := by rw [← u64N_eq]; simp only [IntKind.wrap_u64]
      have hltu := Lib.hid (u64N_lt (xs.getD j 0))
      have HF := Lib.hid (rowsP_snoc s.data.toList (xs.take j) (xs.getD j 0))
      generalize xs.getD j 0 = x at *
      generalize u64N x = y at *
      go_wp2_with fail
      refine (wPut64 y wr hltu.out).mono ?_
      rintro e w2 ⟨A2, n2, c2, rfl, hown2, hb⟩
      obtain rfl : n2 = 8 := by rw [← (Rd.of_own hown2).1, enc_len]
      have U := Lib.hid (Rd.of_own hown2)
      obtain ⟨hcp2, hcp2'⟩ := own_cap hown2
      have HNE : Hid (0 < 8 → ∀ b o, A2 = some ⟨b, o, none⟩ → u7.ownBlock ≠ some b) := fun h8 b' o' e h => by
        obtain ⟨g, e2, hg⟩ := own_head hown2 h8
        rw [e] at e2
        injection e2 with e2; injection e2 with e2 _
        have := HO.out.lt b' h
        omega
      have O2 := Lib.hid (HO.out.to hb)
      have B2 := Lib.hid (HB.out.trans (hb.mono HB.out.size))
      clear hown2 hb hcell h64
      have HLT := Lib.hid hlt
      have hki : (j : Int) < 1000000 := by omega
      go_wp2_with (at_builtin; refine wpList_rowsPush (v := u7) rfl _ _ rfl rfl rfl O2.out U.out hcp2 hcp2' HNE.out B2.out B2.out.size (by have := HLT.out; omega) ?_; intro v3 w3 hown3 hbel3 hsz3)
      go_roundw
      case rel => exact ⟨j + 1, HLT.out, by go_num, by rw [HE.out, HF.out, show 2 + (j + 1) = 2 + j + 1 from by omega]; exact hown3, hbel3⟩
      case measure => simp [intOf]; omega
    · obtain rfl : j = m := by have := HK.out; omega
      rw [List.take_of_length_le (by rw [S.out.1]; exact Nat.le_refl _)] at HO
      obtain ⟨A3, c3, rfl, hrs⟩ := HO.out.rdS (by omega)
      have RS := Lib.hid hrs
      have HFT := Lib.hid (rowsP_flat s.data.toList xs)
      have R1 := Lib.hid (R.out.to HB.out)
      have P1 := Lib.hid (P.out.to HB.out)
      have hfl : (rowsP s.data.toList xs).flatten.length ≤ 1007201 := by rw [HFT.out, HFL.out, HS.out, S.out.1]; omega
      have HFLL := Lib.hid hfl
      clear hrs hfl HO R P
      go_wp2_with fail
      refine (wCat A3 (2 + j) c3 (rowsP s.data.toList xs) wr RS.out (by omega) (by have := HFLL.out; omega)).mono ?_
      rw [HFT.out]
      rintro e w4 ⟨A4, n4, c4, rfl, hown4, hb⟩
      have U := Lib.hid (Rd.of_own hown4)
      have hn4 : n4 ≤ 1007201 := by rw [← U.out.1, ← HFT.out]; exact HFLL.out
      replace R1 := Lib.hid (R1.out.to hb)
      replace P1 := Lib.hid (P1.out.to hb)
      have B4 := Lib.hid (HB.out.trans (hb.mono HB.out.size))
      clear hown4 hb HB
      go_wp2_with fail
      refine (wHmac A A4 n n4 c c4 k _ w4 P1.out R1.out U.out hn hc hc' (by omega)).mono ?_
      obtain ⟨t, ht⟩ : ∃ t, hmacL k (formI s.data.toList xs) = t := ⟨_, rfl⟩
      rw [ht] at HL
      have HT := Lib.hid ht
      clear ht
      rintro e w5 ⟨rfl, hb⟩
      rw [HT.out]
      replace B4 := Lib.hid (B4.out.trans (hb.mono B4.out.size))
      clear hb R1 P1
      have S1 := Lib.hid (tag_size HL.out)
      have E1 : Hid ((arrB zeros32).size = (arrB t).size) := by
        show _ = _
        rw [arrB_size, arrB_size, HL.out]; rfl
      go_wp2_with (refine wpList_store_row rfl 25 _ _ rfl w5.heap.size (arrB t) rfl rfl 25 (arrB zeros32) (heap_alloc_last w5 _) S1.out E1.out (arrB_one _) ?_; rw [World.setRow_alloc_new])
      have hb1 : Below w5.heap.size w5 (w5.alloc (.cells (arrB t) 25)) := (Below.refl _ _).alloc (Nat.le_refl _) _
      have T1 : Hid (TagAt (w5.alloc (.cells (arrB t) 25)) w5.heap.size t) := ⟨HL.out, heap_alloc_last w5 _⟩
      have HG : Hid (w.heap.size ≤ w5.heap.size) := B4.out.size
      replace B4 := Lib.hid (B4.out.trans (hb1.mono B4.out.size))
      clear hb1 E1 hz
      generalize w5.heap.size = g at *
      generalize w5.alloc (.cells (arrB t) 25) = w6 at *
      have hsa := tag_sliceAll g
      go_wp2_with fail
      go_ret
      rw [HT.out]
      exact ⟨_, _, _, rfl, OwR.tag T1.out HG.out, Nat.le_refl _, by decide, B4.out⟩
end Go.Proofs.YtgkmkkfnpoapfaaDoor
