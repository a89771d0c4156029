/- A configuration that reads stays when a box of another is written: no row of it lies there. -/
import Derived.Test.YtecedmjhhaabgaaCfWq
namespace Go.Proofs.Ytecedmjhhaabgaa
open Go.RowKit
set_option linter.unusedVariables false
set_option linter.unusedSimpArgs false

/-- A block of slices alone. -/
def Sl3 (cs : List Value) : Prop := ∀ u ∈ cs, ∃ A n c, u = .slice A n c
theorem sl3 (a b c : Option Addr) (n m k n' m' k' : Nat) : Sl3 [.slice a n n', .slice b m m', .slice c k k'] := by
  intro u hu
  simp only [List.mem_cons, List.not_mem_nil, or_false] at hu
  rcases hu with rfl | rfl | rfl <;> exact ⟨_, _, _, rfl⟩
theorem Sl3.no {w : World} {g o : Nat} {T : TypeId} {cs : List Value} (hs : Sl3 cs) (hx : Bx w g T cs) {k : IntKind} {x : Int} (h : w.cell? ⟨g, o, none⟩ = some (.int k x)) : False := by
  have h' : w.heap[g]? = some (.cells cs.toArray T (0, 0)) := hx
  have e : w.cell? ⟨g, o, none⟩ = cs[o]? := by simp [World.cell?, h']
  rw [e] at h
  have hm : Value.int k x ∈ cs := List.mem_of_getElem? h
  obtain ⟨A, n, c, e2⟩ := hs _ hm
  cases e2
theorem Rd.apart {w w' : World} {g n : Nat} {T : TypeId} {cs : List Value} {A : Option Addr} {bs : List UInt8} (h : Rd w w.heap.size A n bs) (hs : Sl3 cs) (hx : Bx w g T cs) (hk : Keep (· = g) w w') : Rd w' w'.heap.size A n bs :=
  h.kept hk (fun hn b o e hb => by
    obtain ⟨b', o', e', _, hc⟩ := h.2 hn
    rw [e] at e'
    injection e' with e'; injection e' with e1 e2
    subst e1; subst e2; subst hb
    exact hs.no hx (hc 0 hn))
theorem RdG.apart {w w' : World} {g n : Nat} {T : TypeId} {cs : List Value} {A : Option Addr} {l : List Reg} (h : RdG w w.heap.size A n l) (hs : Sl3 cs) (hx : Bx w g T cs) (hk : Keep (· = g) w w') : RdG w' w'.heap.size A n l :=
  ⟨h.1, fun hn => by
    obtain ⟨b, o, e, hb, hc⟩ := h.2 hn
    have hne : ¬ b = g := fun e => by subst e; exact hs.no hx (hc 0 hn).1
    exact ⟨b, o, e, Nat.lt_of_lt_of_le hb hk.size, fun j hj => ⟨(hk.cell (a := ⟨b, _, none⟩) hb hne).trans (hc j hj).1, (hk.cell (a := ⟨b, _, none⟩) hb hne).trans (hc j hj).2⟩⟩⟩
theorem RdC.apart {w w' : World} {g n : Nat} {T : TypeId} {cs : List Value} {A : Option Addr} {l : List Ch} (h : RdC w w.heap.size A n l) (hs : Sl3 cs) (hx : Bx w g T cs) (hk : Keep (· = g) w w') : RdC w' w'.heap.size A n l :=
  ⟨h.1, fun hn => by
    obtain ⟨b, o, e, hb, hc⟩ := h.2 hn
    have hne : ¬ b = g := fun e => by subst e; exact hs.no hx (hc 0 hn 0 _ rfl)
    exact ⟨b, o, e, Nat.lt_of_lt_of_le hb hk.size, fun j hj i u hu => (hk.cell (a := ⟨b, _, none⟩) hb hne).trans (hc j hj i u hu)⟩⟩
theorem RdP.apart {w w' : World} {g n : Nat} {T : TypeId} {cs : List Value} {A : Option Addr} {l : List Pt} (h : RdP w w.heap.size A n l) (hs : Sl3 cs) (hx : Bx w g T cs) (hk : Keep (· = g) w w') : RdP w' w'.heap.size A n l :=
  ⟨h.1, fun hn => by
    obtain ⟨b, o, e, hb, hc⟩ := h.2 hn
    have hne : ¬ b = g := fun e => by
      subst e
      obtain ⟨A', m, c, h1, _⟩ := hc 0 hn
      exact hs.no hx (h1 0 _ rfl)
    refine ⟨b, o, e, Nat.lt_of_lt_of_le hb hk.size, fun j hj => ?_⟩
    obtain ⟨A', m, c, h1, h2, h3⟩ := hc j hj
    exact ⟨A', m, c, fun i u hu => (hk.cell (a := ⟨b, _, none⟩) hb hne).trans (h1 i u hu), h2.apart hs hx hk, h3⟩⟩
theorem RdCf.apart {w w' : World} {g : Nat} {T : TypeId} {cs : List Value} {v : CV} {c : Cf} (h : RdCf w w.heap.size v c) (hs : Sl3 cs) (hx : Bx w g T cs) (hk : Keep (· = g) w w') : RdCf w' w'.heap.size v c :=
  ⟨h.ww.apart hs hx hk, h.pp.apart hs hx hk, h.cc.apart hs hx hk, h.kw, h.kp, h.kc⟩
end Go.Proofs.Ytecedmjhhaabgaa
