/- Plain mathematics of HMAC: short forms, masks, tags, purposes, sealed messages, as the chapter says them. No program. -/
import Derived.Test.YtmhknpkiddgcpaaShaM
namespace Go.Proofs.Ytmhknpkiddgcpaa

/-- The short form of a key. -/
def shortL (k : List UInt8) : List UInt8 := if k.length ≤ 64 then k else shaL k
theorem shortL_len (k : List UInt8) : (shortL k).length ≤ 64 := by
  unfold shortL
  split
  · assumption
  · rw [shaL_len]; decide
/-- A mask: the short form, padded to 64 bytes, each byte turned by one. -/
def maskL (k : List UInt8) (x : UInt8) : List UInt8 := (List.range 64).map fun i => (shortL k).getD i 0 ^^^ x
theorem maskL_len (k : List UInt8) (x : UInt8) : (maskL k x).length = 64 := by simp [maskL]
def hmacL (k b : List UInt8) : List UInt8 := shaL (maskL k 92 ++ shaL (maskL k 54 ++ b))
theorem hmacL_len (k b : List UInt8) : (hmacL k b).length = 32 := shaL_len _
/-- A purpose's bytes. -/
def formL (label : List UInt8) (l : List Nat) : List UInt8 := label ++ [0] ++ (l.map fun x => enc x 8).flatten
theorem formL_len (label : List UInt8) (l : List Nat) : (formL label l).length = label.length + 1 + 8 * l.length := by
  unfold formL
  rw [List.length_append, List.length_append]
  have : ∀ l : List Nat, ((l.map fun x => enc x 8).flatten).length = 8 * l.length := by
    intro l
    induction l with
    | nil => rfl
    | cons x l ih => rw [List.map_cons, List.flatten_cons, List.length_append, enc_len, ih, List.length_cons]; omega
  rw [this]; rfl
def sealL (k b : List UInt8) : List UInt8 := b ++ hmacL k b
theorem sealL_len (k b : List UInt8) : (sealL k b).length = b.length + 32 := by rw [sealL, List.length_append, hmacL_len]
/-- Is it a sealed message? -/
def openOk (k s : List UInt8) : Bool := decide (32 ≤ s.length) && decide (sealL k (s.take (s.length - 32)) = s)
def openL (k s : List UInt8) : List UInt8 := if openOk k s then s.take (s.length - 32) else []
theorem open_seal (k b : List UInt8) : openOk k (sealL k b) = true ∧ openL k (sealL k b) = b := by
  have h1 : (sealL k b).take ((sealL k b).length - 32) = b := by
    rw [sealL_len, Nat.add_sub_cancel]
    exact List.take_left' rfl
  have h2 : openOk k (sealL k b) = true := by
    unfold openOk
    rw [h1, sealL_len]
    simp
  exact ⟨h2, by rw [openL, if_pos h2, h1]⟩
/-- A mask, grown byte by byte. -/
def maskN (s : List UInt8) (x : UInt8) (n : Nat) : List UInt8 := (List.range n).map fun i => s.getD i 0 ^^^ x
theorem maskN_succ (s : List UInt8) (x : UInt8) (n : Nat) : maskN s x (n + 1) = maskN s x n ++ [s.getD n 0 ^^^ x] := by
  unfold maskN
  rw [List.range_succ, List.map_append]; rfl
theorem maskN_all (k : List UInt8) (x : UInt8) : maskN (shortL k) x 64 = maskL k x := rfl
/-- An int's 64 bits. -/
def u64N (x : Int) : Nat := (x % 18446744073709551616).toNat
theorem u64N_lt (x : Int) : u64N x < 18446744073709551616 := by unfold u64N; omega
theorem u64N_eq (x : Int) : x % 18446744073709551616 = (u64N x : Int) := by unfold u64N; omega
/-- A purpose's bytes, of ints. -/
def formI (label : List UInt8) (l : List Int) : List UInt8 := formL label (l.map u64N)
theorem formI_nil (label : List UInt8) : formI label [] = label ++ [0] := by simp [formI, formL]
theorem formI_snoc (label : List UInt8) (l : List Int) (x : Int) : formI label (l ++ [x]) = formI label l ++ enc (u64N x) 8 := by
  simp [formI, formL]
theorem formI_len (label : List UInt8) (l : List Int) : (formI label l).length = label.length + 1 + 8 * l.length := by
  unfold formI
  rw [formL_len, List.length_map]
end Go.Proofs.Ytmhknpkiddgcpaa
