/- What was taken, added again, is what it was taken of (P5.6): the mathematics, kind by kind. -/
import Derived.Test.YtmhknpkiddgcpaaWireBackD
namespace Go.Proofs.Ytmhknpkiddgcpaa
open Go.RowKit
set_option linter.unusedVariables false
set_option linter.unusedSimpArgs false

theorem u64N_wrap (n : Nat) (h : n < 18446744073709551616) : u64N (wrap64 (n : Int)) = n := by
  have h1 := u64N_eq (wrap64 (n : Int))
  unfold wrap64 at h1 ⊢
  omega
/-- A reader that is still whole behind a take: it was whole ahead of it, and there was enough. -/
theorem next_whole {s : RS} {n : Nat} (h : (s.next n).e = 0) : s.e = 0 ∧ n ≤ s.rest.length := by
  by_cases he : s.e = 0
  · refine ⟨he, ?_⟩
    rcases Nat.lt_or_ge s.rest.length n with hl | hl
    · rw [next_no he hl] at h; cases h
    · exact hl
  · rw [next_bad he] at h; exact absurd h he
theorem enc_take {l : List UInt8} {n : Nat} (h : n ≤ l.length) (h1 : 1 ≤ n) (h8 : n ≤ 8) : enc (numOf (l.take n)) n = l.take n ∧ numOf (l.take n) < 256 ^ n := by
  have hl : (l.take n).length = n := by simp; omega
  have e : numOf (l.take n) = num (l.take n) := by unfold numOf; rw [if_neg (by omega)]
  rw [e]
  have h2 := enc_num (l.take n)
  have h3 := num_lt (l.take n)
  rw [hl] at h2 h3
  exact ⟨h2, h3⟩
theorem flag_whole {s : RS} (h : (flagS s).e = 0) : s.e = 0 ∧ 1 ≤ s.rest.length ∧ s.numb 1 ≤ 1 ∧ flagS s = s.next 1 := by
  unfold flagS at h ⊢
  by_cases h1 : 1 < s.numb 1
  · rw [if_pos h1] at h; cases h
  · rw [if_neg h1] at h
    obtain ⟨a, b⟩ := next_whole h
    exact ⟨a, b, by omega, by rw [if_neg h1]⟩
theorem bytes_whole {s : RS} (h : (bytesS s).e = 0) : s.e = 0 ∧ 4 ≤ s.rest.length ∧ loadOf s.rest 0 4 ≤ 65536 ∧ 4 + loadOf s.rest 0 4 ≤ s.rest.length := by
  have he : s.e = 0 := by
    rcases Nat.eq_zero_or_pos s.e with h0 | h0
    · exact h0
    · rw [(bytes_bad (s := s) (by omega)).2] at h; exact h
  refine ⟨he, ?_⟩
  by_cases hb : ¬ (4 ≤ s.rest.length ∧ loadOf s.rest 0 4 ≤ 65536) ∨ s.rest.length < 4 + loadOf s.rest 0 4
  · have := (bytes_no he hb).2; rw [h] at this; cases this
  · have h1 : 4 ≤ s.rest.length ∧ loadOf s.rest 0 4 ≤ 65536 := Classical.not_not.1 (fun hh => hb (.inl hh))
    exact ⟨h1.1, h1.2, by rcases Nat.lt_or_ge s.rest.length (4 + loadOf s.rest 0 4) with hh | hh; exact absurd (.inr hh) hb; exact hh⟩
/-- The field's bytes, and what is left behind it, are what stood there; it takes a byte at least. -/
theorem put_back {s : RS} {what : Int} (h0 : 0 ≤ what) (h5 : what ≤ 5) (h : (backS s what).e = 0) : putF (backF s what) ++ (backS s what).rest = s.rest ∧ (backS s what).rest.length < s.rest.length ∧ s.e = 0 := by
  have hk : what = 0 ∨ what = 1 ∨ what = 2 ∨ what = 3 ∨ what = 4 ∨ what = 5 := by omega
  rcases hk with rfl | rfl | rfl | rfl | rfl | rfl
  · rw [backS0] at h ⊢
    obtain ⟨he, hl⟩ := next_whole h
    rw [backF0, next_yes he hl]
    refine ⟨?_, by simp; omega, he⟩
    show [byteV s] ++ s.rest.drop 1 = s.rest
    have e : byteV s = s.rest.getD 0 0 := by
      unfold byteV
      rw [numb_one he hl]
      unfold nth
      exact UInt8.ofNat_toNat
    rw [e, ← take_one hl, List.take_append_drop]
  · rw [backS1] at h ⊢
    obtain ⟨he, hl⟩ := next_whole h
    rw [backF1, next_yes he hl]
    refine ⟨?_, by simp; omega, he⟩
    show enc (u64N (intV s)) 8 ++ s.rest.drop 8 = s.rest
    have h8 := enc_take (n := 8) hl (by decide) (by decide)
    unfold intV
    rw [numb_yes he hl, u64N_wrap _ (by have := h8.2; omega), h8.1, List.take_append_drop]
  · rw [backS2] at h ⊢
    obtain ⟨he, hl, hn, hf⟩ := flag_whole h
    rw [backF2, hf, next_yes he hl]
    refine ⟨?_, by simp; omega, he⟩
    show [flagB (decide (s.numb 1 = 1))] ++ s.rest.drop 1 = s.rest
    have e : flagB (decide (s.numb 1 = 1)) = s.rest.getD 0 0 := by
      have h1 := numb_one he hl
      unfold nth at h1
      rcases (by omega : s.numb 1 = 0 ∨ s.numb 1 = 1) with h2 | h2
      · rw [h2] at h1 ⊢
        exact UInt8.toNat_inj.1 h1
      · rw [h2] at h1 ⊢
        exact UInt8.toNat_inj.1 h1
    rw [e, ← take_one hl, List.take_append_drop]
  · rw [backS3] at h ⊢
    obtain ⟨he, h4, hx, hl⟩ := bytes_whole h
    obtain ⟨e1, e2⟩ := bytes_yes he h4 hx hl
    rw [backF3, e1, e2]
    have hlz := loadOf_zero (bs := s.rest) (k := 4) h4 (by decide) (by decide)
    refine ⟨?_, by simp; omega, he⟩
    show (enc ((s.rest.take (4 + loadOf s.rest 0 4)).drop 4).length 4 ++ (s.rest.take (4 + loadOf s.rest 0 4)).drop 4) ++ s.rest.drop (4 + loadOf s.rest 0 4) = s.rest
    have hlen : ((s.rest.take (4 + loadOf s.rest 0 4)).drop 4).length = loadOf s.rest 0 4 := by simp; omega
    have h44 := (enc_take (n := 4) h4 (by decide) (by decide)).1
    rw [hlen, show loadOf s.rest 0 4 = numOf (s.rest.take 4) from hlz.1] at *
    rw [h44]
    have e3 : s.rest.take 4 = (s.rest.take (4 + numOf (s.rest.take 4))).take 4 := by rw [List.take_take]; congr 1; omega
    rw [List.append_assoc]
    generalize numOf (s.rest.take 4) = z at *
    rw [e3, ← List.append_assoc, List.take_append_drop, List.take_append_drop]
  · rw [backS4] at h ⊢
    obtain ⟨he, h4, hx, hl⟩ := bytes_whole h
    obtain ⟨e1, e2⟩ := bytes_yes he h4 hx hl
    rw [backF4, e1, e2]
    have hlz := loadOf_zero (bs := s.rest) (k := 4) h4 (by decide) (by decide)
    refine ⟨?_, by simp; omega, he⟩
    show (enc ((s.rest.take (4 + loadOf s.rest 0 4)).drop 4).length 4 ++ (s.rest.take (4 + loadOf s.rest 0 4)).drop 4) ++ s.rest.drop (4 + loadOf s.rest 0 4) = s.rest
    have hlen : ((s.rest.take (4 + loadOf s.rest 0 4)).drop 4).length = loadOf s.rest 0 4 := by simp; omega
    have h44 := (enc_take (n := 4) h4 (by decide) (by decide)).1
    rw [hlen, show loadOf s.rest 0 4 = numOf (s.rest.take 4) from hlz.1] at *
    rw [h44]
    have e3 : s.rest.take 4 = (s.rest.take (4 + numOf (s.rest.take 4))).take 4 := by rw [List.take_take]; congr 1; omega
    rw [List.append_assoc]
    generalize numOf (s.rest.take 4) = z at *
    rw [e3, ← List.append_assoc, List.take_append_drop, List.take_append_drop]
  · rw [backS5] at h ⊢
    obtain ⟨he, hl⟩ := next_whole h
    rw [backF5, next_yes he hl]
    refine ⟨?_, by simp; omega, he⟩
    show tagV s ++ s.rest.drop 32 = s.rest
    rw [tagV_yes he hl, List.take_append_drop]
end Go.Proofs.Ytmhknpkiddgcpaa
