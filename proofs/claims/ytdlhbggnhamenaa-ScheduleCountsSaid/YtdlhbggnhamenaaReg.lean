/- Regions in memory: a slice of them that reads as a list (RdG), how one, and a slice of them, comes in. -/
import Derived.Test.YtdlhbggnhamenaaRegM
import Derived.Test.YtdlhbggnhamenaaBase
import Derived.Test.YtdlhbggnhamenaaChecked
import Derived.Deep.Slices
import Derived.Deep.Fields
import Derived.ChangeSame
namespace Go.Proofs.Ytdlhbggnhamenaa
open Go.RowKit Go.ChangeShapes Go.WideShapes Go.Deep
set_option linter.unusedVariables false

/-- A region as a value, its cells. -/
def regL (r : Reg) : List Value := [.int .i64 r.1, .int .i64 r.2]
/-- A slice of regions reads as l. -/
def RdG (w : World) (B : Nat) (A : Option Addr) (n : Nat) (l : List Reg) : Prop :=
  l.length = n ∧ (0 < n → ∃ b o, A = some ⟨b, o, none⟩ ∧ b < B ∧ ∀ j, j < n → w.cell? ⟨b, o + j * 2, none⟩ = some (.int .i64 (rat l j).1) ∧ w.cell? ⟨b, o + j * 2 + 1, none⟩ = some (.int .i64 (rat l j).2))
theorem RdG.nil (w : World) (B : Nat) (A : Option Addr) : RdG w B A 0 [] := ⟨rfl, fun h => absurd h (Nat.lt_irrefl 0)⟩
theorem RdG.below {w w' : World} {B n : Nat} {A : Option Addr} {l : List Reg} (h : RdG w B A n l) (hb : Below B w w') : RdG w' B A n l :=
  ⟨h.1, fun hn => by
    obtain ⟨b, o, e, hB, hc⟩ := h.2 hn
    exact ⟨b, o, e, hB, fun j hj => ⟨(hb.cell (by exact hB)).trans (hc j hj).1, (hb.cell (by exact hB)).trans (hc j hj).2⟩⟩⟩
theorem RdG.more {w : World} {B B' n : Nat} {A : Option Addr} {l : List Reg} (h : RdG w B A n l) (hB : B ≤ B') : RdG w B' A n l :=
  ⟨h.1, fun hn => by
    obtain ⟨b, o, e, hb, hc⟩ := h.2 hn
    exact ⟨b, o, e, by omega, hc⟩⟩
theorem RdG.to {w w' : World} {n : Nat} {A : Option Addr} {l : List Reg} (h : RdG w w.heap.size A n l) (hb : Below w.heap.size w w') : RdG w' w'.heap.size A n l := (h.below hb).more hb.size
theorem RdG.drewN {w : World} {B n : Nat} {A : Option Addr} {l : List Reg} (h : RdG w B A n l) (k : Nat) : RdG (w.drewN k) B A n l := h
theorem cell_in {W : World} {p : Addr} {v : Value} (h : W.cell? p = some v) : p.block < W.heap.size := by
  rcases Nat.lt_or_ge p.block W.heap.size with g | g
  · exact g
  · have e : W.cell? p = none := by simp [World.cell?, Array.getElem?_eq_none g]
    rw [e] at h; cases h
theorem Below.kept {W W' : World} {p : Addr} {v : Value} (hb : Below W.heap.size W W') (h : W.cell? p = some v) : W'.cell? p = some v := (hb.cell (cell_in h)).trans h
/-- What a contract off the shelf asks of the cells. -/
theorem RdG.shelf {w : World} {n b o : Nat} {l : List Reg} (hl : l.length = n) (hc : ∀ j, j < n → w.cell? ⟨b, o + j * 2, none⟩ = some (.int .i64 (rat l j).1) ∧ w.cell? ⟨b, o + j * 2 + 1, none⟩ = some (.int .i64 (rat l j).2)) :
    ∀ j, j < l.length → ∀ i v, (regL l[j]!)[i]? = some v → w.cell? ⟨b, o + j * 2 + i, none⟩ = some v := by
  intro j hj i v hv
  have h1 := hc j (by omega)
  rw [rat_bang hj] at hv
  match i, hv with
  | 0, hv => simp [regL] at hv; rw [← hv]; exact h1.1
  | 1, hv => simp [regL] at hv; rw [← hv]; exact h1.2
  | i + 2, hv => simp [regL] at hv

theorem addr_add (b o k : Nat) : (⟨b, o, none⟩ : Addr).add k = ⟨b, o + k, none⟩ := by unfold Addr.add; split <;> simp_all
section
variable {H : Type} {enc : TypeId × Value → H} {W : World} {base : Nat} {held : Bool}
end
end Go.Proofs.Ytdlhbggnhamenaa
