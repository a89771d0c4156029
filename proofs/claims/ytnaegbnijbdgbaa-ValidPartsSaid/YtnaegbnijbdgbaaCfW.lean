/- Configurations in memory of the call's own: rows of windows, partitions, channels; what they read as; what may be written over. -/
import Derived.Test.YtnaegbnijbdgbaaCfO
import Derived.Test.YtnaegbnijbdgbaaRowV
namespace Go.Proofs.Ytnaegbnijbdgbaa
open Go.RowKit
set_option linter.unusedVariables false
set_option linter.unusedSimpArgs false

theorem vtW : VT Try.prog 22 49 2 16 (.agg #[.int .i64 0, .int .i64 0]) := ⟨Try.underlying22, by kernel_rfl, rfl, by decide⟩
theorem vtC : VT Try.prog 24 51 5 40 (.agg #[.int .i64 0, .int .i64 0, .int .i64 0, .int .i64 0, .int .i64 0]) := ⟨Try.underlying24, by kernel_rfl, rfl, by decide⟩
theorem vtP : VT Try.prog 23 45 5 56 (.agg #[.int .i64 0, .int .i64 0, .int .i64 0, .bool false, .slice none 0 0]) := ⟨Try.underlying23, by kernel_rfl, rfl, by decide⟩
theorem regL_len (r : Reg) : (regL r).length = 2 := rfl
theorem chL_len (r : Ch) : (chL r).length = 5 := rfl
theorem cell_none (b o j : Nat) : (⟨b, o, none⟩ : Addr).add j = ⟨b, o + j, none⟩ := by unfold Addr.add; split <;> simp_all
/-- Rows as cells. -/
def winsV (l : List Reg) : List Value := l.flatMap regL
def chsV (l : List Ch) : List Value := l.flatMap chL
theorem winsV_one (l : List Reg) : ∀ u ∈ winsV l, u.oneCell' = true := by
  intro u hu
  obtain ⟨r, _, hr⟩ := List.mem_flatMap.1 hu
  simp only [regL, List.mem_cons, List.not_mem_nil, or_false] at hr
  rcases hr with rfl | rfl <;> rfl
theorem chsV_one (l : List Ch) : ∀ u ∈ chsV l, u.oneCell' = true := by
  intro u hu
  obtain ⟨r, _, hr⟩ := List.mem_flatMap.1 hu
  simp only [chL, List.mem_cons, List.not_mem_nil, or_false] at hr
  rcases hr with rfl | rfl | rfl | rfl | rfl <;> rfl
theorem winsV_app (l m : List Reg) : winsV (l ++ m) = winsV l ++ winsV m := by simp [winsV]
theorem chsV_app (l m : List Ch) : chsV (l ++ m) = chsV l ++ chsV m := by simp [chsV]
/-- What an append asks of the row that is put behind. -/
theorem RdG.news {w : World} {B n : Nat} {A : Option Addr} {l : List Reg} (h : RdG w B A n l) : (winsV l).length = n * 2 ∧ (0 < n → ∃ ad, A = some ad ∧ ∀ j u, (winsV l)[j]? = some u → w.cell? (ad.add j) = some u) := by
  refine ⟨by rw [winsV, flat_len regL regL_len, h.1], fun hn => ?_⟩
  obtain ⟨b, o, e, _, hc⟩ := h.2 hn
  refine ⟨_, e, fun j u hu => ?_⟩
  obtain ⟨hj, hv⟩ := flat_of regL (by decide) regL_len l hu
  obtain ⟨c1, c2⟩ := hc (j / 2) (by have := h.1; omega)
  rw [rat_lt hj] at c1 c2
  rw [cell_none]
  rcases Nat.mod_two_eq_zero_or_one j with hm | hm
  · rw [hm] at hv
    rw [show o + j = o + j / 2 * 2 by omega, c1]; exact hv
  · rw [hm] at hv
    rw [show o + j = o + j / 2 * 2 + 1 by omega, c2]; exact hv
theorem RdC.news {w : World} {B n : Nat} {A : Option Addr} {l : List Ch} (h : RdC w B A n l) : (chsV l).length = n * 5 ∧ (0 < n → ∃ ad, A = some ad ∧ ∀ j u, (chsV l)[j]? = some u → w.cell? (ad.add j) = some u) := by
  refine ⟨by rw [chsV, flat_len chL chL_len, h.1], fun hn => ?_⟩
  obtain ⟨b, o, e, _, hc⟩ := h.2 hn
  refine ⟨_, e, fun j u hu => ?_⟩
  obtain ⟨hj, hv⟩ := flat_of chL (by decide) chL_len l hu
  have c1 := hc (j / 5) (by have := h.1; omega) (j % 5) u (by rw [chAt_lt hj]; exact hv)
  rw [cell_none, show o + j = o + j / 5 * 5 + j % 5 by omega]
  exact c1
theorem RdG.of_ownV {w : World} {B : Nat} {T : TypeId} {A : Option Addr} {n c : Nat} {l : List Reg} (h : w.ownsRow B T 2 (.slice A n c) n (winsV l)) : RdG w w.heap.size A n l := by
  have hl : l.length = n := by have := h.1; rw [winsV, flat_len regL regL_len] at this; omega
  refine ⟨hl, fun hn => ?_⟩
  obtain ⟨g, e, _, hlt, _, hc⟩ := own_frV h hn
  refine ⟨g, 0, e, hlt, fun j hj => ?_⟩
  have h0 := flat_at regL regL_len l j 0 (by omega) (by decide)
  have h1 := flat_at regL regL_len l j 1 (by omega) (by decide)
  rw [rat_lt (by omega : j < l.length), Nat.zero_add]
  exact ⟨hc _ _ h0, hc _ _ h1⟩
theorem RdC.of_ownV {w : World} {B : Nat} {T : TypeId} {A : Option Addr} {n c : Nat} {l : List Ch} (h : w.ownsRow B T 5 (.slice A n c) n (chsV l)) : RdC w w.heap.size A n l := by
  have hl : l.length = n := by have := h.1; rw [chsV, flat_len chL chL_len] at this; omega
  refine ⟨hl, fun hn => ?_⟩
  obtain ⟨g, e, _, hlt, _, hc⟩ := own_frV h hn
  refine ⟨g, 0, e, hlt, fun j hj i v hv => ?_⟩
  rw [chAt_lt (by omega : j < l.length)] at hv
  have hi : i < 5 := by
    rcases Nat.lt_or_ge i 5 with q | q
    · exact q
    · rw [List.getElem?_eq_none (by rw [chL_len]; exact q)] at hv; cases hv
  rw [Nat.zero_add]
  exact hc _ _ ((flat_at chL chL_len l j i (by omega) hi).trans hv)

/-- A partition, and where its image lies. -/
structure QP where
  p : Pt
  A : Option Addr
  m : Nat
  c : Nat
def QP.cells (q : QP) : List Value := ptL q.p q.A q.m q.c
theorem QP.cells_len (q : QP) : q.cells.length = 5 := rfl
def partsV (l : List QP) : List Value := l.flatMap QP.cells
theorem partsV_one (l : List QP) : ∀ u ∈ partsV l, u.oneCell' = true := by
  intro u hu
  obtain ⟨r, _, hr⟩ := List.mem_flatMap.1 hu
  simp only [QP.cells, ptL, List.mem_cons, List.not_mem_nil, or_false] at hr
  rcases hr with rfl | rfl | rfl | rfl | rfl <;> rfl
theorem partsV_app (l m : List QP) : partsV (l ++ m) = partsV l ++ partsV m := by simp [partsV]
/-- An image of the call's own. -/
structure Img (w : World) (B : Nat) (q : QP) : Prop where
  own : OwR w B q.A q.m q.p.img
  mc : q.m ≤ q.c
  cc : q.c ≤ 9223372036854775807 ∧ q.m ≤ 140737488351232
theorem Img.kept {R : Nat → Prop} {w w' : World} {B : Nat} {q : QP} (h : Img w B q) (hk : Keep R w w') (ho : Off q.A q.m R) : Img w' B q := ⟨h.own.kept hk ho, h.mc, h.cc⟩
/-- A row of partitions of the call's own, images and all. -/
structure OwnP (w : World) (B : Nat) (v : Value) (l : List QP) : Prop where
  row : w.ownsRow B 45 5 v l.length (partsV l)
  img : ∀ q ∈ l, Img w B q
  off : ∀ q ∈ l, ∀ b, v.ownBlock = some b → Off q.A q.m (· = b)
theorem OwnP.nil (w : World) (B : Nat) : OwnP w B (.slice none 0 0) [] := ⟨World.ownsRow_nil _ _ _ _, fun _ h => absurd h List.not_mem_nil, fun _ h => absurd h List.not_mem_nil⟩
theorem OwnP.kept {R : Nat → Prop} {w w' : World} {B : Nat} {v : Value} {l : List QP} (h : OwnP w B v l) (hk : Keep R w w') (hv : ∀ b, v.ownBlock = some b → ¬ R b) (ho : ∀ q ∈ l, Off q.A q.m R) : OwnP w' B v l :=
  ⟨own_kv h.row hk hv, fun q hq => (h.img q hq).kept hk (ho q hq), h.off⟩
theorem Img.off_lt {w : World} {B : Nat} {q : QP} (h : Img w B q) {R : Nat → Prop} (hR : ∀ k, R k → k < B ∨ w.heap.size ≤ k) : Off q.A q.m R := fun hn b o e hb => by
  obtain ⟨b', o', e', hB, _⟩ := h.own.2 hn
  obtain ⟨b2, o2, e2, hlt, _⟩ := h.own.1.2 hn
  rw [e] at e' e2
  injection e' with e'; injection e' with e1 _
  injection e2 with e2; injection e2 with e3 _
  subst e1; subst e3
  have := hR _ hb
  omega
/-- What is written lies below, or is new. -/
theorem OwnP.to {R : Nat → Prop} {w w' : World} {B : Nat} {v : Value} {l : List QP} (h : OwnP w B v l) (hk : Keep R w w') (hR : ∀ k, R k → k < B ∨ w.heap.size ≤ k) : OwnP w' B v l :=
  h.kept hk (fun b hb hr => by have := h.row.lt b hb; have := hR b hr; omega) (fun q hq => (h.img q hq).off_lt hR)
theorem own_tv {R : Nat → Prop} {w w' : World} {B z : Nat} {T : TypeId} {v : Value} {n : Nat} {xs : List Value} (h : w.ownsRow B T z v n xs) (hk : Keep R w w') (hR : ∀ k, R k → k < B ∨ w.heap.size ≤ k) : w'.ownsRow B T z v n xs :=
  own_kv h hk (fun b hb hr => by have := h.lt b hb; have := hR b hr; omega)
/-- One more. -/
theorem OwnP.push {w w' : World} {B : Nat} {v v' : Value} {l : List QP} {q : QP} (h : OwnP w B v l) (hq : Img w B q) (hqo : ∀ b, v.ownBlock = some b → Off q.A q.m (· = b)) (hown : w'.ownsRow B 45 5 v' (l.length + 1) (partsV l ++ q.cells))
    (hk : Keep (fun k => v.ownBlock = some k) w w') (hv : ∀ b, v'.ownBlock = some b → v.ownBlock = some b ∨ w.heap.size ≤ b) : OwnP w' B v' (l ++ [q]) := by
  have each : ∀ x : QP, Img w B x → (∀ b, v.ownBlock = some b → Off x.A x.m (· = b)) → Img w' B x ∧ ∀ b, v'.ownBlock = some b → Off x.A x.m (· = b) := fun x hx hxo => by
    refine ⟨hx.kept hk (fun hn b o e hb => hxo b hb hn b o e rfl), fun b hb => ?_⟩
    rcases hv b hb with hb | hb
    · exact hxo b hb
    · exact hx.off_lt (fun k hk => .inr (by omega))
  have all : ∀ x ∈ l ++ [q], Img w' B x ∧ ∀ b, v'.ownBlock = some b → Off x.A x.m (· = b) := fun x hx => by
    rcases List.mem_append.1 hx with hx | hx
    · exact each x (h.img x hx) (h.off x hx)
    · obtain rfl := List.mem_singleton.1 hx
      exact each x hq hqo
  refine ⟨?_, fun x hx => (all x hx).1, fun x hx => (all x hx).2⟩
  rw [List.length_append, partsV_app, show partsV [q] = q.cells from List.append_nil _]
  exact hown
theorem OwnP.rd {w : World} {B : Nat} {A : Option Addr} {n c : Nat} {l : List QP} (h : OwnP w B (.slice A n c) l) : RdP w w.heap.size A n (l.map QP.p) := by
  obtain ⟨hl, _⟩ := own_capV h.row
  subst hl
  refine ⟨by simp, fun hn => ?_⟩
  obtain ⟨g, e, _, hlt, _, hc⟩ := own_frV h.row hn
  refine ⟨g, 0, e, hlt, fun j hj => ?_⟩
  have e1 : ptAt (l.map QP.p) j = (l[j]).p := by rw [ptAt_lt (by simpa using hj)]; simp
  have hi := h.img _ (List.getElem_mem hj)
  rw [e1]
  refine ⟨(l[j]).A, (l[j]).m, (l[j]).c, fun i v hv => ?_, hi.own.1, hi.mc, hi.cc⟩
  have hi5 : i < 5 := by
    rcases Nat.lt_or_ge i 5 with q | q
    · exact q
    · rw [List.getElem?_eq_none (by exact q)] at hv; cases hv
  rw [Nat.zero_add]
  exact hc _ _ ((flat_at QP.cells QP.cells_len l j i hj hi5).trans hv)

/-! What may be written over. -/
/-- A value in place of another one of its kind. -/
def kinV (v v' : Value) : Prop := v' = v ∨ (∃ x y, v = .int .i64 x ∧ v' = .int .i64 y) ∨ ∃ x y : UInt8, v = .int .u8 (x.toNat : Int) ∧ v' = .int .u8 (y.toNat : Int)
theorem kinV.trans {a b c : Value} (h : kinV a b) (h' : kinV b c) : kinV a c := by
  rcases h with rfl | ⟨x, y, rfl, rfl⟩ | ⟨x, y, rfl, rfl⟩
  · exact h'
  · rcases h' with rfl | ⟨x', y', e, rfl⟩ | ⟨x', y', e, rfl⟩
    · exact .inr (.inl ⟨x, y, rfl, rfl⟩)
    · exact .inr (.inl ⟨x, y', rfl, rfl⟩)
    · cases e
  · rcases h' with rfl | ⟨x', y', e, rfl⟩ | ⟨x', y', e, rfl⟩
    · exact .inr (.inr ⟨x, y, rfl, rfl⟩)
    · cases e
    · exact .inr (.inr ⟨x, y', rfl, rfl⟩)
structure Kin (w w' : World) : Prop where
  cell : ∀ a v, w.cell? a = some v → ∃ v', w'.cell? a = some v' ∧ kinV v v'
  fr : ∀ a, w'.frozen? a = w.frozen? a
theorem Kin.refl (w : World) : Kin w w := ⟨fun a v h => ⟨v, h, .inl rfl⟩, fun _ => rfl⟩
theorem Kin.set {w0 w : World} (h : Kin w0 w) {a : Addr} {v v' : Value} (hc : w.cell? a = some v) (hk : kinV v v') : Kin w0 (w.setCell a v') := by
  refine ⟨fun b u hu => ?_, fun b => by rw [World.frozen?_setCell]; exact h.fr b⟩
  obtain ⟨u1, h1, k1⟩ := h.cell b u hu
  by_cases e : b = a
  · subst e
    refine ⟨v', World.cell?_setCell_same _ _ _ hc, ?_⟩
    rw [h1] at hc; cases hc
    exact k1.trans hk
  · exact ⟨u1, by rw [World.cell?_setCell_other _ _ _ _ (fun h => e h.symm)]; exact h1, k1⟩
theorem Kin.int {w w' : World} (h : Kin w w') {a : Addr} {x : Int} (hc : w.cell? a = some (.int .i64 x)) : ∃ y, w'.cell? a = some (.int .i64 y) := by
  obtain ⟨v', h1, k⟩ := h.cell a _ hc
  rcases k with rfl | ⟨_, y, _, rfl⟩ | ⟨_, _, e, _⟩
  · exact ⟨x, h1⟩
  · exact ⟨y, h1⟩
  · cases e
theorem Kin.byte {w w' : World} (h : Kin w w') {a : Addr} {x : UInt8} (hc : w.cell? a = some (.int .u8 (x.toNat : Int))) : ∃ y : UInt8, w'.cell? a = some (.int .u8 (y.toNat : Int)) := by
  obtain ⟨v', h1, k⟩ := h.cell a _ hc
  rcases k with rfl | ⟨_, y, e, _⟩ | ⟨_, y, _, rfl⟩
  · exact ⟨x, h1⟩
  · cases e
  · exact ⟨y, h1⟩
theorem Kin.slice {w w' : World} (h : Kin w w') {a : Addr} {A : Option Addr} {n c : Nat} (hc : w.cell? a = some (.slice A n c)) : w'.cell? a = some (.slice A n c) := by
  obtain ⟨v', h1, k⟩ := h.cell a _ hc
  rcases k with rfl | ⟨_, y, e, _⟩ | ⟨_, y, e, rfl⟩
  · exact h1
  · cases e
  · cases e
/-- A row whose elements begin with an int that may be written. -/
def SpN (w : World) (B z : Nat) (A : Option Addr) (n : Nat) : Prop :=
  0 < n → ∃ b o, A = some ⟨b, o, none⟩ ∧ B ≤ b ∧ ∀ j, j < n → (∃ x, w.cell? ⟨b, o + j * z, none⟩ = some (.int .i64 x)) ∧ w.frozen? ⟨b, o + j * z, none⟩ = false
/-- Partitions that may be written over. -/
def SpP (w : World) (B : Nat) (A : Option Addr) (n : Nat) : Prop :=
  0 < n → ∃ b o, A = some ⟨b, o, none⟩ ∧ B ≤ b ∧ ∀ j, j < n → ((∃ x, w.cell? ⟨b, o + j * 5, none⟩ = some (.int .i64 x)) ∧ w.frozen? ⟨b, o + j * 5, none⟩ = false) ∧ ∃ A' m c bs, w.cell? ⟨b, o + j * 5 + 4, none⟩ = some (.slice A' m c) ∧ OwR w B A' m bs ∧ m ≤ c ∧ c ≤ 9223372036854775807 ∧ m ≤ 140737488351232
structure Sp (w : World) (B : Nat) (v : CV) : Prop where
  ww : SpN w B 2 v.aw v.nw
  pp : SpP w B v.ap v.np
  cc : SpN w B 5 v.ac v.nc
theorem SpN.ownW {w : World} {B : Nat} {T : TypeId} {A : Option Addr} {n c : Nat} {l : List Reg} (h : w.ownsRow B T 2 (.slice A n c) n (winsV l)) : SpN w B 2 A n := fun hn => by
  have hl : l.length = n := by have := h.1; rw [winsV, flat_len regL regL_len] at this; omega
  obtain ⟨g, e, hB, hlt, hf, hc⟩ := own_frV h hn
  refine ⟨g, 0, e, hB, fun j hj => ⟨⟨(l[j]'(by omega)).1, ?_⟩, hf _⟩⟩
  rw [Nat.zero_add]
  exact hc _ _ (flat_at regL regL_len l j 0 (by omega) (by decide))
theorem SpN.ownC {w : World} {B : Nat} {T : TypeId} {A : Option Addr} {n c : Nat} {l : List Ch} (h : w.ownsRow B T 5 (.slice A n c) n (chsV l)) : SpN w B 5 A n := fun hn => by
  have hl : l.length = n := by have := h.1; rw [chsV, flat_len chL chL_len] at this; omega
  obtain ⟨g, e, hB, hlt, hf, hc⟩ := own_frV h hn
  refine ⟨g, 0, e, hB, fun j hj => ⟨⟨(l[j]'(by omega)).id, ?_⟩, hf _⟩⟩
  rw [Nat.zero_add]
  exact hc _ _ (flat_at chL chL_len l j 0 (by omega) (by decide))
theorem OwnP.sp {w : World} {B : Nat} {A : Option Addr} {n c : Nat} {l : List QP} (h : OwnP w B (.slice A n c) l) : SpP w B A n := fun hn => by
  obtain ⟨hl, _⟩ := own_capV h.row
  subst hl
  obtain ⟨g, e, hB, hlt, hf, hc⟩ := own_frV h.row hn
  refine ⟨g, 0, e, hB, fun j hj => ⟨⟨⟨(l[j]).p.id, ?_⟩, hf _⟩, (l[j]).A, (l[j]).m, (l[j]).c, (l[j]).p.img, ?_, ?_⟩⟩
  · rw [Nat.zero_add]
    exact hc _ _ (flat_at QP.cells QP.cells_len l j 0 hj (by decide))
  · rw [Nat.zero_add]
    exact hc _ _ (flat_at QP.cells QP.cells_len l j 4 hj (by decide))
  · have hi := h.img _ (List.getElem_mem hj)
    exact ⟨hi.own, hi.mc, hi.cc⟩
theorem SpN.to {w w' : World} {B z : Nat} {A : Option Addr} {n : Nat} (h : SpN w B z A n) (hb : Below w.heap.size w w') : SpN w' B z A n := fun hn => by
  obtain ⟨b, o, e, hB, hc⟩ := h hn
  refine ⟨b, o, e, hB, fun j hj => ?_⟩
  obtain ⟨⟨x, hx⟩, hf⟩ := hc j hj
  have hlt : b < w.heap.size := cell_block hx
  exact ⟨⟨x, (hb.cell (p := ⟨b, _, none⟩) hlt).trans hx⟩, (frozen_below (a := ⟨b, _, none⟩) hb hlt).trans hf⟩
theorem SpP.to {w w' : World} {B : Nat} {A : Option Addr} {n : Nat} (h : SpP w B A n) (hb : Below w.heap.size w w') : SpP w' B A n := fun hn => by
  obtain ⟨b, o, e, hB, hc⟩ := h hn
  refine ⟨b, o, e, hB, fun j hj => ?_⟩
  obtain ⟨⟨⟨x, hx⟩, hf⟩, A', m, c, bs, h4, ho, h5⟩ := hc j hj
  have hlt : b < w.heap.size := cell_block hx
  exact ⟨⟨⟨x, (hb.cell (p := ⟨b, _, none⟩) hlt).trans hx⟩, (frozen_below (a := ⟨b, _, none⟩) hb hlt).trans hf⟩, A', m, c, bs, (hb.cell (p := ⟨b, _, none⟩) hlt).trans h4, ho.to hb, h5⟩
theorem Sp.to {w w' : World} {B : Nat} {v : CV} (h : Sp w B v) (hb : Below w.heap.size w w') : Sp w' B v := ⟨h.ww.to hb, h.pp.to hb, h.cc.to hb⟩
theorem Sp.mono {w : World} {B B' : Nat} {v : CV} (h : Sp w B v) (hB : B' ≤ B) : Sp w B' v :=
  ⟨fun hn => by obtain ⟨b, o, e, h1, h2⟩ := h.ww hn; exact ⟨b, o, e, by omega, h2⟩, fun hn => by
    obtain ⟨b, o, e, h1, h2⟩ := h.pp hn
    refine ⟨b, o, e, by omega, fun j hj => ?_⟩
    obtain ⟨h3, A', m, c, bs, h4, ho, h5⟩ := h2 j hj
    exact ⟨h3, A', m, c, bs, h4, ho.mono hB, h5⟩, fun hn => by obtain ⟨b, o, e, h1, h2⟩ := h.cc hn; exact ⟨b, o, e, by omega, h2⟩⟩
/-- A configuration of the call's own. -/
structure OwCf (w : World) (B : Nat) (v : CV) (c : Cf) : Prop where
  rd : RdCf w w.heap.size v c
  sp : Sp w B v
theorem OwCf.to {w w' : World} {B : Nat} {v : CV} {c : Cf} (h : OwCf w B v c) (hb : Below w.heap.size w w') : OwCf w' B v c := ⟨h.rd.to hb, h.sp.to hb⟩
theorem OwCf.of_rows {w : World} {B : Nat} {v : CV} {c : Cf} {qs : List QP} (hw : w.ownsRow B 49 2 (.slice v.aw v.nw v.kw) v.nw (winsV c.ws)) (hp : OwnP w B (.slice v.ap v.np v.kp) qs) (hq : qs.map QP.p = c.ps)
    (hc : w.ownsRow B 51 5 (.slice v.ac v.nc v.kc) v.nc (chsV c.cs)) : OwCf w B v c := by
  refine ⟨⟨RdG.of_ownV hw, hq ▸ hp.rd, RdC.of_ownV hc, (own_capV hw).2.1, ?_, (own_capV hc).2.1⟩, SpN.ownW hw, hp.sp, SpN.ownC hc⟩
  have := own_capV hp.row
  omega
end Go.Proofs.Ytnaegbnijbdgbaa
