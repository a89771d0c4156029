/- Plain mathematics: a row that is changed at up to four places, one behind the other, has another sum, unless nothing is changed. No program. -/
import Derived.Test.YtabonnhmmbigmaaCrc
namespace Go.Proofs.Ytabonnhmmbigmaa

/-- k bytes of zs put over xs from place p on, by exclusive or. -/
def patch (xs : List UInt8) (p : Nat) (zs : List UInt8) : Nat → List UInt8
  | 0 => xs
  | k + 1 => (patch xs p zs k).set (p + k) ((patch xs p zs k).getD (p + k) 0 ^^^ zs.getD k 0)
theorem patch_len (xs : List UInt8) (p : Nat) (zs : List UInt8) : ∀ k, (patch xs p zs k).length = xs.length
  | 0 => rfl
  | k + 1 => by rw [patch, List.length_set, patch_len xs p zs k]
theorem getD_set {l : List UInt8} {i j : Nat} {v : UInt8} (h : i < l.length) : (l.set i v).getD j 0 = if i = j then v else l.getD j 0 := by
  simp only [List.getD, List.getElem?_set]
  split
  · rename_i e; subst e; simp
  · rfl
theorem patch_getD (xs : List UInt8) (p : Nat) (zs : List UInt8) : ∀ k j, p + k ≤ xs.length → (patch xs p zs k).getD j 0 = if p ≤ j ∧ j < p + k then xs.getD j 0 ^^^ zs.getD (j - p) 0 else xs.getD j 0
  | 0, j, _ => by rw [if_neg (by omega)]; rfl
  | k + 1, j, h => by
    rw [patch, getD_set (by rw [patch_len]; omega), patch_getD xs p zs k _ (by omega), patch_getD xs p zs k _ (by omega)]
    by_cases e : p + k = j
    · subst e
      rw [if_pos rfl, if_neg (by omega), if_pos (by omega), Nat.add_sub_cancel_left]
    · rw [if_neg e]
      by_cases h1 : p ≤ j ∧ j < p + k
      · rw [if_pos h1, if_pos (by omega)]
      · rw [if_neg h1, if_neg (by omega)]
theorem xorL_getD : ∀ (xs ys : List UInt8) (j : Nat), xs.length = ys.length → (xorL xs ys).getD j 0 = xs.getD j 0 ^^^ ys.getD j 0
  | [], [], j, _ => by simp [xorL]
  | [], _ :: _, _, h => by simp at h
  | _ :: _, [], _, h => by simp at h
  | x :: xs, y :: ys, 0, _ => by simp [xorL]
  | x :: xs, y :: ys, j + 1, h => by
    simp only [xorL, List.getD_cons_succ]
    exact xorL_getD xs ys j (by simpa using h)
theorem ext_getD {a b : List UInt8} (hl : a.length = b.length) (h : ∀ j, j < a.length → a.getD j 0 = b.getD j 0) : a = b := by
  refine List.ext_getElem hl fun j h1 h2 => ?_
  have := h j h1
  simpa [List.getD, h1, h2] using this
theorem patch_xor (xs : List UInt8) (p : Nat) (zs : List UInt8) (h : p + zs.length ≤ xs.length) :
    xorL xs (patch xs p zs zs.length) = List.replicate p 0 ++ zs ++ List.replicate (xs.length - p - zs.length) 0 := by
  have hl : xs.length = (patch xs p zs zs.length).length := (patch_len xs p zs _).symm
  refine ext_getD (by rw [xorL_len, ← hl]; simp; omega) fun j hj => ?_
  rw [xorL_getD _ _ _ hl, patch_getD _ _ _ _ _ h]
  have e : ∀ x y : UInt8, x ^^^ (x ^^^ y) = y := fun x y => by rw [← UInt8.xor_assoc, UInt8.xor_self, UInt8.zero_xor]
  by_cases h1 : p ≤ j ∧ j < p + zs.length
  · rw [if_pos h1, e]
    simp only [List.getD]
    rw [List.append_assoc, List.getElem?_append_right (by simp; omega), List.getElem?_append_left (by simp; omega), List.length_replicate]
  · rw [if_neg h1, UInt8.xor_self]
    rw [xorL_len, ← hl] at hj
    simp only [List.getD]
    by_cases h2 : j < p
    · rw [List.append_assoc, List.getElem?_append_left (by simp; omega)]
      simp [h2]
    · rw [List.getElem?_append_right (by simp; omega)]
      simp only [List.getElem?_replicate, List.length_append, List.length_replicate]
      split <;> rfl
/-- P2.4. -/
theorem patch_sum {xs : List UInt8} {p : Nat} {zs : List UInt8} (h : p + zs.length ≤ xs.length) (h4 : zs.length ≤ 4) :
    crcSum xs = crcSum (patch xs p zs zs.length) ↔ zs = List.replicate zs.length 0 := by
  rw [crc_same (patch_len xs p zs _).symm, patch_xor xs p zs h, raw_four h4]
theorem enc_zeros (x : Nat) (hx : x < 4294967296) : enc x 4 = List.replicate (enc x 4).length 0 ↔ x = 0 := by
  constructor
  · intro h
    have e := num_enc x 4
    rw [h, enc_len] at e
    have z : num (List.replicate 4 0) = 0 := by decide
    rw [z] at e
    have e2 : x % 4294967296 = 0 := e.symm
    omega
  · rintro rfl
    decide
theorem tells {xs : List UInt8} {p over : Nat} (h : p + 4 ≤ xs.length) (ho : over < 4294967296) :
    crcSum xs = crcSum (patch xs p (enc over 4) 4) ↔ over = 0 := by
  have := patch_sum (xs := xs) (p := p) (zs := enc over 4) (by rw [enc_len]; exact h) (by rw [enc_len]; decide)
  rw [enc_zeros over ho, enc_len] at this
  exact this
end Go.Proofs.Ytabonnhmmbigmaa
