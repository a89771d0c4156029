/- Rows handed back (OwS): read, cut, written over; a front, a part of a list of rows; one row more behind a list of another's (run_appendS). -/
import Derived.Test.YtnaegbnijbdgbaaChR
namespace Go.Proofs.Ytnaegbnijbdgbaa
open Go.RowKit
set_option linter.unusedVariables false
set_option linter.unusedSimpArgs false

def fullR (m : List UInt8) : Row := (m, m.length)
def shown (x : Row) : List UInt8 := x.1.take x.2
theorem shown_full (m : List UInt8) : shown (fullR m) = m := List.take_length
theorem shown_fulls (l : List (List UInt8)) : (l.map fullR).map shown = l := by
  rw [List.map_map]
  have : shown ∘ fullR = id := by funext m; exact shown_full m
  rw [this, List.map_id]
/-- Rows in memory that lies at B or behind it, and may be written. -/
def OwS (w : World) (B : Nat) (A : Option Addr) (n : Nat) (xs : List Row) : Prop :=
  xs.length = n ∧ (0 < n → ∃ b o, A = some ⟨b, o, none⟩ ∧ B ≤ b ∧ b < w.heap.size ∧ ∀ j, j < n → ∃ A' c, w.cell? ⟨b, o + j, none⟩ = some (.slice A' (rowAt xs j).2 c) ∧ ROk w B (rowAt xs j) A' c ∧ (0 < (rowAt xs j).1.length → ∀ b' o', A' = some ⟨b', o', none⟩ → b' ≠ b))
theorem OwS.nil (w : World) (B : Nat) (A : Option Addr) : OwS w B A 0 [] := ⟨rfl, fun h => absurd h (Nat.lt_irrefl 0)⟩
theorem OwS.of {w : World} {B n c : Nat} {A : Option Addr} {xs : List Row} (h : RowsX w B (.slice A n c) n xs) : OwS w B A n xs := by
  obtain ⟨hl, vs, h1, h2⟩ := h
  refine ⟨hl, fun hn => ?_⟩
  obtain ⟨g, rfl, hg⟩ := own_head h1 hn
  have hlt : g < w.heap.size := by
    rcases h1.2 with ⟨_, h0⟩ | ⟨g', cap, cur, hv, _, hh, _⟩
    · omega
    · injection hv with e; injection e with e; injection e with e _; subst e; exact heap_at_lt hh
  refine ⟨g, 0, rfl, hg, hlt, fun j hj => ?_⟩
  obtain ⟨A', c', e, hr, hb⟩ := h2 j hj
  have hc := h1.cells (g := g) rfl j _ e
  have ea : (⟨g, 0, none⟩ : Addr).add j = ⟨g, 0 + j, none⟩ := by unfold Addr.add; split <;> simp_all
  rw [ea] at hc
  refine ⟨A', c', hc, hr, fun h0 b' o' e' he => hb h0 b' o' e' ?_⟩
  subst he; rfl
theorem OwS.kept {R : Nat → Prop} {w w' : World} {B n : Nat} {A : Option Addr} {xs : List Row} (h : OwS w B A n xs) (hk : Keep R w w') (hn : ∀ b, R b → b < B) : OwS w' B A n xs := by
  refine ⟨h.1, fun h0 => ?_⟩
  obtain ⟨b, o, e, hB, hlt, hc⟩ := h.2 h0
  refine ⟨b, o, e, hB, Nat.lt_of_lt_of_le hlt hk.size, fun j hj => ?_⟩
  obtain ⟨A', c, h1, h2, h3⟩ := hc j hj
  refine ⟨A', c, ?_, h2.kept hk (fun hp b o e hR => by have := (h2.1.blk hp e).1; have := hn b hR; omega), h3⟩
  rw [← h1]
  exact hk.cell hlt (fun hR => by have := hn b hR; omega)
theorem OwS.to {w w' : World} {B n : Nat} {A : Option Addr} {xs : List Row} (h : OwS w B A n xs) (hb : Below w.heap.size w w') : OwS w' B A n xs := h.kept (R := fun _ => False) (Keep.of_below hb) (fun _ h => h.elim)
theorem OwS.mono {w : World} {B B' n : Nat} {A : Option Addr} {xs : List Row} (h : OwS w B A n xs) (hB : B' ≤ B) : OwS w B' A n xs :=
  ⟨h.1, fun h0 => by
    obtain ⟨b, o, e, hb, hlt, hc⟩ := h.2 h0
    refine ⟨b, o, e, by omega, hlt, fun j hj => ?_⟩
    obtain ⟨A', c, h1, h2, h3⟩ := hc j hj
    exact ⟨A', c, h1, h2.mono hB, h3⟩⟩
theorem rowAt_map (xs : List Row) (j : Nat) : (xs.map shown).getD j [] = shown (rowAt xs j) := by
  simp only [rowAt, List.getD, List.getElem?_map]
  cases xs[j]? <;> simp [shown]
/-- It reads as what it shows. -/
theorem OwS.rdS {w : World} {B n : Nat} {A : Option Addr} {xs : List Row} (h : OwS w B A n xs) : RdS w w.heap.size A n (xs.map shown) := by
  refine ⟨by simp [h.1], fun h0 => ?_⟩
  obtain ⟨b, o, e, hB, hlt, hc⟩ := h.2 h0
  refine ⟨b, o, e, hlt, fun j hj => ?_⟩
  obtain ⟨A', c, h1, h2, _⟩ := hc j hj
  refine ⟨A', _, c, h1, ?_⟩
  rw [rowAt_map]
  exact h2.1.1.front h2.2.1
theorem OwS.full {w : World} {B n : Nat} {A : Option Addr} {l : List (List UInt8)} (h : OwS w B A n (l.map fullR)) : RdS w w.heap.size A n l := by
  have := h.rdS
  rwa [shown_fulls] at this
theorem OwS.at_ {w : World} {B n j : Nat} {A : Option Addr} {xs : List Row} (h : OwS w B A n xs) (hj : j < n) :
    ∃ b o A' c, A = some ⟨b, o, none⟩ ∧ w.cell? ⟨b, o + j, none⟩ = some (.slice A' (rowAt xs j).2 c) ∧ ROk w B (rowAt xs j) A' c ∧ (0 < (rowAt xs j).1.length → ∀ b' o', A' = some ⟨b', o', none⟩ → b' ≠ b) := by
  obtain ⟨b, o, e, hB, hlt, hc⟩ := h.2 (by omega)
  obtain ⟨A', c, h1, h2, h3⟩ := hc j hj
  exact ⟨b, o, A', c, e, h1, h2, h3⟩
theorem addr_addN {b o j : Nat} : (⟨b, o, none⟩ : Addr).add j = ⟨b, o + j, none⟩ := by unfold Addr.add; split <;> simp_all
/-- Where the part behind the first l lies, when nothing lies behind its end. -/
def cutA (A : Option Addr) (n l : Nat) : Option Addr := if n = l then A else A.map (·.add l)
theorem OwS.drop {w : World} {B n l : Nat} {A : Option Addr} {xs : List Row} (h : OwS w B A n xs) (hl : l ≤ n) : OwS w B (cutA A n l) (n - l) (xs.drop l) := by
  refine ⟨by simp [h.1], fun h0 => ?_⟩
  obtain ⟨b, o, rfl, hB, hlt, hc⟩ := h.2 (by omega)
  refine ⟨b, o + l, ?_, hB, hlt, fun j hj => ?_⟩
  · unfold cutA; rw [if_neg (by omega)]; simp [addr_addN]
  · obtain ⟨A', c, h1, h2, h3⟩ := hc (l + j) (by omega)
    have e : rowAt (xs.drop l) j = rowAt xs (l + j) := by simp [rowAt, List.getD, List.getElem?_drop]
    rw [e]
    exact ⟨A', c, by rw [Nat.add_assoc]; exact h1, h2, h3⟩
theorem OwS.take {w : World} {B n l : Nat} {A : Option Addr} {xs : List Row} (h : OwS w B A n xs) (hl : l ≤ n) : OwS w B A l (xs.take l) := by
  refine ⟨by simp [h.1]; omega, fun h0 => ?_⟩
  obtain ⟨b, o, rfl, hB, hlt, hc⟩ := h.2 (by omega)
  refine ⟨b, o, rfl, hB, hlt, fun j hj => ?_⟩
  obtain ⟨A', c, h1, h2, h3⟩ := hc j (by omega)
  have e : rowAt (xs.take l) j = rowAt xs j := by simp [rowAt, List.getD, hj]
  rw [e]
  exact ⟨A', c, h1, h2, h3⟩
theorem RdS.drop {w : World} {B n l : Nat} {A : Option Addr} {bss : List (List UInt8)} (h : RdS w B A n bss) (hl : l ≤ n) : RdS w B (cutA A n l) (n - l) (bss.drop l) := by
  refine ⟨by simp [h.1], fun h0 => ?_⟩
  obtain ⟨b, o, rfl, hlt, hc⟩ := h.2 (by omega)
  refine ⟨b, o + l, ?_, hlt, fun j hj => ?_⟩
  · unfold cutA; rw [if_neg (by omega)]; simp [addr_addN]
  · obtain ⟨A', m, c, h1, h2⟩ := hc (l + j) (by omega)
    have e : (bss.drop l).getD j [] = bss.getD (l + j) [] := by simp [List.getD, List.getElem?_drop]
    rw [e]
    exact ⟨A', m, c, by rw [Nat.add_assoc]; exact h1, h2⟩
theorem RdS.belowX {w w' : World} {B n : Nat} {A : Option Addr} {bss : List (List UInt8)} (h : RdS w B A n bss) (hb : Below B w w') : RdS w' B A n bss :=
  ⟨h.1, fun hn => by
    obtain ⟨b, o, e, hB, hc⟩ := h.2 hn
    refine ⟨b, o, e, hB, fun j hj => ?_⟩
    obtain ⟨A', m, c, h1, h2⟩ := hc j hj
    exact ⟨A', m, c, (hb.cell (p := ⟨b, o + j, none⟩) hB).trans h1, h2.below hb⟩⟩
theorem RdS.moreX {w : World} {B B' n : Nat} {A : Option Addr} {bss : List (List UInt8)} (h : RdS w B A n bss) (hB : B ≤ B') : RdS w B' A n bss :=
  ⟨h.1, fun hn => by
    obtain ⟨b, o, e, hb, hc⟩ := h.2 hn
    refine ⟨b, o, e, by omega, fun j hj => ?_⟩
    obtain ⟨A', m, c, h1, h2⟩ := hc j hj
    exact ⟨A', m, c, h1, h2.more hB⟩⟩
theorem RdS.toX {w w' : World} {n : Nat} {A : Option Addr} {bss : List (List UInt8)} (h : RdS w w.heap.size A n bss) (hb : Below w.heap.size w w') : RdS w' w'.heap.size A n bss := (h.belowX hb).moreX hb.size
theorem RdS.at_ {w : World} {B n j : Nat} {A : Option Addr} {bss : List (List UInt8)} (h : RdS w B A n bss) (hj : j < n) :
    ∃ b o A' m c, A = some ⟨b, o, none⟩ ∧ w.cell? ⟨b, o + j, none⟩ = some (.slice A' m c) ∧ Rd w B A' m (bss.getD j []) := by
  obtain ⟨b, o, e, hb, hc⟩ := h.2 (by omega)
  obtain ⟨A', m, c, h1, h2⟩ := hc j hj
  exact ⟨b, o, A', m, c, e, h1, h2⟩

/-! Written over. -/
theorem OwR.dirty {w : World} {B n : Nat} {A : Option Addr} {bs : List UInt8} (h : OwR w B A n bs) (p : Addr) (y : UInt8) : ∃ bs' : List UInt8, bs'.length = bs.length ∧ OwR (w.setCell p (.int .u8 (y.toNat : Int))) B A n bs' := by
  rcases Nat.eq_zero_or_pos n with rfl | hn
  · exact ⟨bs, rfl, ⟨⟨h.1.1, fun h => absurd h (Nat.lt_irrefl 0)⟩, fun h => absurd h (Nat.lt_irrefl 0)⟩⟩
  · obtain ⟨b, o, rfl, hB, hf⟩ := h.2 hn
    by_cases hp : ∃ j, j < n ∧ p = ⟨b, o + j, none⟩
    · obtain ⟨j, hj, rfl⟩ := hp
      exact ⟨bs.set j y, by simp, h.set hj y rfl⟩
    · refine ⟨bs, rfl, ⟨h.1.1, fun h0 => ?_⟩, fun h0 => ⟨b, o, rfl, hB, fun j hj => by rw [World.frozen?_setCell]; exact hf j hj⟩⟩
      refine ⟨b, o, rfl, by simpa using h.1.blk hn, fun j hj => ?_⟩
      rw [World.cell?_setCell_other (h := fun e => hp ⟨j, hj, e⟩)]
      exact h.1.at hj
theorem ROk.dirty {w : World} {B c : Nat} {x : Row} {A : Option Addr} (h : ROk w B x A c) (p : Addr) (y : UInt8) : ∃ x' : Row, x'.2 = x.2 ∧ x'.1.length = x.1.length ∧ ROk (w.setCell p (.int .u8 (y.toNat : Int))) B x' A c := by
  obtain ⟨bs', hl, ho⟩ := h.1.dirty p y
  refine ⟨(bs', x.2), rfl, hl, ?_, ?_, ?_, h.2.2.2⟩
  · show OwR _ B A bs'.length bs'
    rw [hl]; exact ho
  · show x.2 ≤ bs'.length
    rw [hl]; exact h.2.1
  · show bs'.length ≤ c
    rw [hl]; exact h.2.2.1
theorem OwS.dirty {w : World} {B n b o : Nat} {xs : List Row} (h : OwS w B (some ⟨b, o, none⟩) n xs) (p : Addr) (hp : p.block ≠ b) (y : UInt8) :
    ∃ xs' : List Row, (∀ j, j < n → (rowAt xs' j).2 = (rowAt xs j).2) ∧ OwS (w.setCell p (.int .u8 (y.toNat : Int))) B (some ⟨b, o, none⟩) n xs' := by
  rcases Nat.eq_zero_or_pos n with rfl | hn
  · exact ⟨xs, fun _ h => absurd h (Nat.not_lt_zero _), ⟨h.1, fun h => absurd h (Nat.lt_irrefl 0)⟩⟩
  · obtain ⟨b1, o1, e, hB, hlt, hc⟩ := h.2 hn
    injection e with e; injection e with e1 e2
    subst e1; subst e2
    have each : ∀ j, ∃ x' : Row, j < n → x'.2 = (rowAt xs j).2 ∧ x'.1.length = (rowAt xs j).1.length ∧ ∃ A' c, w.cell? ⟨b, o + j, none⟩ = some (.slice A' (rowAt xs j).2 c) ∧ ROk (w.setCell p (.int .u8 (y.toNat : Int))) B x' A' c ∧ (0 < (rowAt xs j).1.length → ∀ b' o', A' = some ⟨b', o', none⟩ → b' ≠ b) := fun j => by
      by_cases hj : j < n
      · obtain ⟨A', c, h1, h2, h3⟩ := hc j hj
        obtain ⟨x', e1, e2, h4⟩ := h2.dirty p y
        exact ⟨x', fun _ => ⟨e1, e2, A', c, h1, h4, h3⟩⟩
      · exact ⟨([], 0), fun h => absurd h hj⟩
    obtain ⟨F, hF⟩ := Classical.axiomOfChoice each
    have eF : ∀ j, j < n → rowAt ((List.range n).map F) j = F j := fun j hj => by simp [rowAt, List.getD, hj]
    refine ⟨(List.range n).map F, fun j hj => by rw [eF j hj]; exact (hF j hj).1, by simp, fun _ => ⟨b, o, rfl, hB, by simpa using hlt, fun j hj => ?_⟩⟩
    obtain ⟨e1, e2, A', c, h1, h4, h3⟩ := hF j hj
    rw [eF j hj, e1, e2]
    refine ⟨A', c, ?_, h4, h3⟩
    rw [World.cell?_setCell_other (h := fun e => hp (by rw [e]))]
    exact h1

/-! Parts. -/
theorem slice_hc {P : Program} {T U : TypeId} (hul : P.underlying T = some (.slice U)) (hs : ∀ w : World, (sizeOf U).run P w = .ok 1 w) (A : Option Addr) {n c h : Nat} (h2 : h ≤ c) :
    ∀ (k' : IntKind) (w : World), (Instr.slice T (.slice A n c) none (some (.int k' (h : Int))) none).run P w = .ok (.slice A h c) w := by
  intro k' w
  have he : P.elem T = U := by simp [Program.elem, hul]
  rw [run_slice_h (ht := by rw [he]; exact hul) (kh := k') (h := (h : Int)) (h0 := by omega) (h2 := by omega), he, hs]
  simp only [Result.andThen, sliced]
  congr 1
  cases A with
  | none => simp
  | some a => simp [addr_add_zero]
theorem slice_lhm {P : Program} {T U : TypeId} (hul : P.underlying T = some (.slice U)) (hs : ∀ w : World, (sizeOf U).run P w = .ok 1 w) (A : Option Addr) {n c l : Nat} (h1 : l ≤ n) (h2 : n ≤ c) :
    ∀ (k k' k2 : IntKind) (w : World), (Instr.slice T (.slice A n c) (some (.int k (l : Int))) (some (.int k' (n : Int))) (some (.int k2 (n : Int)))).run P w = .ok (.slice (cutA A n l) (n - l) (n - l)) w := by
  intro k k' k2 w
  have he : P.elem T = U := by simp [Program.elem, hul]
  rw [run_slice_lhm (ht := by rw [he]; exact hul) (kl := k) (kh := k') (km := k2) (l := (l : Int)) (h := (n : Int)) (m := (n : Int)) (h0 := by omega) (h1 := by omega) (h2 := by omega) (h3 := by omega), he, hs]
  simp only [Result.andThen, sliced, cutA, Int.toNat_natCast, Nat.mul_one]
theorem slices_size (w : World) : (sizeOf 43).run Try.prog w = .ok 1 w := by
  have h : (Try.prog.info? 43).map (·.size) = some 1 := by kernel_rfl
  cases hi : Try.prog.info? 43 with
  | none => rw [hi] at h; cases h
  | some i => rw [hi] at h; simp at h; simp [sizeOf, typeInfo, hi, h]
end Go.Proofs.Ytnaegbnijbdgbaa
