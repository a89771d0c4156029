/- Contracts of the document's own hmac (citadelref04): a purpose's bytes, derived keys. -/
import Derived.Test.YtgkmkkfnpoapfaaDoorHmacRefS
namespace Go.Proofs.YtgkmkkfnpoapfaaDoor
open Go.RowKit
set_option linter.unusedVariables false
set_option linter.unusedSimpArgs false

/-- A slice of ints reads as the numbers xs, and lies below block B. -/
def RdI (w : World) (B : Nat) (A : Option Addr) (n : Nat) (xs : List Int) : Prop :=
  xs.length = n ∧ (0 < n → ∃ b o, A = some ⟨b, o, none⟩ ∧ b < B ∧ ∀ j, j < n → w.cell? ⟨b, o + j, none⟩ = some (.int .i64 (xs.getD j 0)))
theorem RdI.keep {w w' : World} {B n : Nat} {A : Option Addr} {xs : List Int} (h : RdI w B A n xs) (hk : ∀ p : Addr, p.block < B → w'.cell? p = w.cell? p) : RdI w' B A n xs :=
  ⟨h.1, fun hn => by
    obtain ⟨b, o, e, hb, hc⟩ := h.2 hn
    exact ⟨b, o, e, hb, fun j hj => (hk _ hb).trans (hc j hj)⟩⟩
theorem RdI.more {w : World} {B B' n : Nat} {A : Option Addr} {xs : List Int} (h : RdI w B A n xs) (hB : B ≤ B') : RdI w B' A n xs :=
  ⟨h.1, fun hn => by
    obtain ⟨b, o, e, hb, hc⟩ := h.2 hn
    exact ⟨b, o, e, by omega, hc⟩⟩
theorem RdI.below {w w' : World} {B n : Nat} {A : Option Addr} {xs : List Int} (h : RdI w B A n xs) (hb : Below B w w') : RdI w' B A n xs := h.keep fun _ hp => hb.cell hp
theorem RdI.to {w w' : World} {n : Nat} {A : Option Addr} {xs : List Int} (h : RdI w w.heap.size A n xs) (hb : Below w.heap.size w w') : RdI w' w'.heap.size A n xs := (h.below hb).more hb.size
theorem IsRow.rdI {w : World} {a : Option Addr} {len cap : Nat} {zs : List Int} (h : IsRow .i64 w a len cap zs) :
    RdI w w.heap.size a len (zs.take len) ∧ len ≤ cap ∧ cap ≤ 9223372036854775807 := by
  rcases h with ⟨rfl, rfl, rfl, rfl⟩ | ⟨x, rfl, hl, hm, hz, hc, hwf⟩
  · exact ⟨⟨rfl, fun h => absurd h (Nat.lt_irrefl 0)⟩, by omega, by omega⟩
  · refine ⟨⟨by simp; omega, fun hn => ?_⟩, hl, by unfold maxLen at hm; omega⟩
    obtain ⟨b, o, s⟩ := x
    have h0 := hc 0 (by omega)
    obtain rfl : s = none := by simpa [Addr.add] using World.cell?_spot h0
    refine ⟨b, o, rfl, ?_, fun j hj => ?_⟩
    · rcases Nat.lt_or_ge b w.heap.size with g | g
      · exact g
      · have e : w.cell? ⟨b, o, none⟩ = none := by simp [World.cell?, Array.getElem?_eq_none g]
        rw [show (⟨b, o, none⟩ : Addr).add 0 = ⟨b, o, none⟩ from by simp [Addr.add]] at h0
        rw [e] at h0; cases h0
    · have e : (⟨b, o, none⟩ : Addr).add j = ⟨b, o + j, none⟩ := by unfold Addr.add; split <;> simp_all
      rw [← e, hc j (by omega)]
      simp [List.getD, hj]
theorem take_snoc_I {xs : List Int} {k : Nat} (h : k < xs.length) : xs.take (k + 1) = xs.take k ++ [xs.getD k 0] := by
  rw [List.take_succ_eq_append_getElem h]; simp [List.getD, List.getElem?_eq_getElem h]

def FormRel (w : World) (lab : List UInt8) (xs : List Int) (n : Nat) (v i : Value) (wr : World) : Prop :=
  ∃ k : Nat, k ≤ n ∧ i = .int .i64 (k : Int) ∧ OwnG wr w.heap.size 5 v (lab.length + 1 + 8 * k) (formI lab (xs.take k)) ∧ Below w.heap.size w wr

set_option maxRecDepth 100000 in
set_option maxHeartbeats 1000000 in
theorem rForm (s : ByteArray) (A : Option Addr) (n c : Nat) (xs : List Int) (w : World) (hs : s.size ≤ 1000000) (ha : RdI w w.heap.size A n xs) (hn : n ≤ 1000000) :
    Calls Tryd.prog 30 #[.string s, .slice A n c] w fun e w' => ∃ A n c, e = .returned (.slice A n c) ∧ Rd w' w'.heap.size A n (formI s.data.toList xs) ∧ n ≤ c ∧ c ≤ 9223372036854775807 ∧ Below w.heap.size w w' := by
  have HA := Lib.hid ha
  have HS := Lib.hid (data_len s)
  have kc := Lib.run_convert_string_bytes (P := Tryd.prog) w 9 22 5 s Tryd.underlying9 Tryd.underlying22 Tryd.underlying5
  have O0 := Lib.hid (OwnG.bytesWorld (P := Tryd.prog) w w.heap.size 5 s hs (Nat.le_refl _))
  have B0 := Lib.hid (Go.Joins.below_bytesWorld w.heap.size w 5 s (Nat.le_refl _))
  clear ha
  obtain ⟨c0, hc0⟩ : ∃ c0, grownCap w s.size 0 5 = c0 := ⟨_, rfl⟩
  rw [hc0] at kc O0
  obtain ⟨wb, hwb⟩ : ∃ wb, Lib.bytesWorld w 5 s = wb := ⟨_, rfl⟩
  rw [hwb] at kc O0 B0
  clear hc0 hwb
  have O1 := Lib.hid (O0.out.below ((Below.refl _ _).alloc (Nat.le_refl _) (.cells #[.int .u8 0] 5)))
  have B1 := Lib.hid (B0.out.alloc B0.out.size (.cells #[.int .u8 0] 5))
  go_enter Tryd.func30, Tryd.ntmps30
  go_wp2_with (at_builtin; refine wpList_pushG isU8 rfl _ _ rfl rfl rfl (by decide) O1.out (Rd.lit [0] [.int .u8 0] _ rfl) B1.out B1.out.size (by simp; omega) ?_; intro v1 w1 hown1 hbel1 hsz1)
  rw [← formI_nil] at hown1
  replace hown1 : OwnG w1 w.heap.size 5 v1 (s.size + 1) (formI s.data.toList []) := hown1
  have O := Lib.hid hown1
  have B := Lib.hid hbel1
  clear hown1 hbel1 hsz1 kc O1 B1 O0 B0
  obtain ⟨lab, hlab⟩ : ∃ l, s.data.toList = l := ⟨_, rfl⟩
  rw [hlab] at O HS
  rw [← HS.out] at O
  have HLAB := Lib.hid hlab
  clear hlab
  have HSZ : Hid (lab.length ≤ 1000000) := by show _ ≤ _; rw [HS.out]; exact hs
  go_loopw [5, 6] (fun v i wr => FormRel w lab xs n v i wr) (fun _ i _ => n - (intOf i).toNat)
  case atStart => exact ⟨0, Nat.zero_le _, rfl, O.out, B.out⟩
  case round =>
    obtain ⟨k, hk, rfl, hown, hb⟩ := hrel
    have HO := Lib.hid hown
    have HB := Lib.hid hb
    have HK := Lib.hid hk
    clear hown hb hk O B
    by_cases hlt : k < n
    · obtain ⟨b, o, rfl, hbo, hc⟩ := HA.out.2 (by omega)
      have hcell : wr.cell? ⟨b, o + k, none⟩ = some (.int .i64 (xs.getD k 0)) := (HB.out.cell hbo).trans (hc k hlt)
      clear hc
      have HE := Lib.hid (take_snoc_I (xs := xs) (k := k) (by rw [HA.out.1]; exact hlt))
      have h64 : IntKind.u64.wrap (xs.getD k 0) = (u64N (xs.getD k 0) : Int) := by rw [← u64N_eq]; simp only [IntKind.wrap_u64]
      have hltu := Lib.hid (u64N_lt (xs.getD k 0))
      have HF := Lib.hid (formI_snoc lab (xs.take k) (xs.getD k 0))
      generalize xs.getD k 0 = x at *
      generalize u64N x = y at *
      go_wp2_with fail
      refine (refPut y 8 wr hltu.out (by decide)).mono ?_
      rintro e w2 ⟨A2, n2, c2, rfl, hown2, hb⟩
      obtain rfl : n2 = 8 := by rw [← (Rd.of_own hown2).1, enc_len]
      have R := Lib.hid (Rd.of_own hown2)
      have O2 := Lib.hid (HO.out.below hb)
      have B2 := Lib.hid (HB.out.trans (hb.mono HB.out.size))
      clear hown2 hb hcell h64
      have HLT := Lib.hid hlt
      have hki : (k : Int) < 1000000 := by omega
      go_wp2_with (at_builtin; refine wpList_pushG isU8 rfl _ _ rfl rfl rfl (by decide) O2.out R.out B2.out B2.out.size (by have := HSZ.out; have := HLT.out; omega) ?_; intro v3 w3 hown3 hbel3 hsz3)
      go_roundw
      case rel => exact ⟨k + 1, HLT.out, by go_num, by rw [HE.out, HF.out, show lab.length + 1 + 8 * (k + 1) = lab.length + 1 + 8 * k + 8 from by omega]; exact hown3, hbel3⟩
      case measure => simp [intOf]; omega
    · obtain rfl : k = n := by have := HK.out; omega
      obtain ⟨A3, c3, rfl⟩ := HO.out.slice
      go_wp2
      go_ret
      rw [List.take_of_length_le (by rw [HA.out.1]; exact Nat.le_refl _)] at HO
      obtain ⟨h1, h2, h3⟩ := HO.out.rd
      rw [HLAB.out]
      exact ⟨_, _, _, rfl, h1, h2, h3, HB.out⟩

set_option maxRecDepth 100000 in
set_option maxHeartbeats 1000000 in
theorem rDerive (A A' : Option Addr) (n m c d : Nat) (k : List UInt8) (s : ByteArray) (xs : List Int) (w : World) (ha : Rd w w.heap.size A n k) (hb : RdI w w.heap.size A' m xs) (hn : n ≤ 1000000000) (hs : s.size ≤ 1000000) (hm : m ≤ 1000000) :
    Calls Tryd.prog 14 #[.slice A n c, .string s, .slice A' m d] w fun e w' => RetB 5 w (hmacL k (formI s.data.toList xs)) e w' := by
  have HL := Lib.hid (hmacL_len k (formI s.data.toList xs))
  have HF := Lib.hid (formI_len s.data.toList xs)
  have HD := Lib.hid (data_len s)
  have R := Lib.hid ha
  have S := Lib.hid hb
  clear ha hb
  go_enter Tryd.func14, Tryd.ntmps14
  go_wp2_with fail
  refine (rForm s A' m d xs w hs S.out hm).mono ?_
  rintro e w1 ⟨A1, n1, c1, rfl, hr1, hcp1, hcp1', hb⟩
  have F := Lib.hid hr1
  have hn1 : n1 ≤ 9000001 := by rw [← hr1.1, HF.out, HD.out, S.out.1]; omega
  have B := Lib.hid hb
  replace R := Lib.hid (R.out.to hb)
  clear hr1 hb
  go_wp2_with fail
  refine (rHmac A A1 n n1 c c1 k _ w1 R.out F.out hn (by omega)).mono ?_
  rintro e w2 ⟨rfl, hb⟩
  replace B := Lib.hid (B.out.trans (hb.mono B.out.size))
  clear hb
  go_wp2_with fail
  refine (rTagBytes _ w2 HL.out).mono ?_
  rintro e w3 h
  have H := Lib.hid (RetB.from B.out h)
  obtain ⟨A3, n3, c3, rfl, _, _⟩ := h
  go_wp2_with fail
  go_ret
  exact H.out
end Go.Proofs.YtgkmkkfnpoapfaaDoor
