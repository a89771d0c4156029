/- Several texts in one (a claim has 60 files at most): OwE. -/
import Derived.Test.YtlmdidblgeeplaaGreatDoorTz
import Derived.Test.YtlmdidblgeeplaaGreatDoorPChPx
namespace Go.Proofs.YtlmdidblgeeplaaGreatDoor
set_option maxRecDepth 1000000
set_option maxHeartbeats 8000000
set_option linter.unusedVariables false
set_option linter.unusedSimpArgs false
section
open Go.RowKit
section
variable {w w' : World} {B E n : Nat} {A : Option Addr} {R : Nat → Prop}
theorem RdG.keptE {l : List Reg} (h : RdG w E A n l) {z : Nat} (hs : SpN w B z A n) (hk : Keep R w w') (hE : E ≤ w.heap.size) (hR : ∀ k, R k → k < B ∨ E ≤ k) : RdG w' E A n l :=
 ⟨h.1, fun hn => by
  obtain ⟨b, o, e, hb, hc⟩ := h.2 hn
  obtain ⟨b', o', e', hB, _⟩ := hs hn
  rw [e] at e'
  injection e' with e'; injection e' with e1 e2
  have hne : ¬ R b := fun hh => by have := hR _ hh; omega
  have hlt : b < w.heap.size := Nat.lt_of_lt_of_le hb hE
  exact ⟨b, o, e, hb, fun j hj => ⟨(hk.cell (a := ⟨b, _, none⟩) hlt hne).trans (hc j hj).1, (hk.cell (a := ⟨b, _, none⟩) hlt hne).trans (hc j hj).2⟩⟩⟩
theorem RdC.keptE {l : List Ch} (h : RdC w E A n l) {z : Nat} (hs : SpN w B z A n) (hk : Keep R w w') (hE : E ≤ w.heap.size) (hR : ∀ k, R k → k < B ∨ E ≤ k) : RdC w' E A n l :=
 ⟨h.1, fun hn => by
  obtain ⟨b, o, e, hb, hc⟩ := h.2 hn
  obtain ⟨b', o', e', hB, _⟩ := hs hn
  rw [e] at e'
  injection e' with e'; injection e' with e1 e2
  have hne : ¬ R b := fun hh => by have := hR _ hh; omega
  have hlt : b < w.heap.size := Nat.lt_of_lt_of_le hb hE
  exact ⟨b, o, e, hb, fun j hj i u hu => (hk.cell (a := ⟨b, _, none⟩) hlt hne).trans (hc j hj i u hu)⟩⟩
theorem Rd.keptE {bs bs' : List UInt8} (h : Rd w E A n bs) (ho : OwR w B A n bs') (hk : Keep R w w') (hE : E ≤ w.heap.size) (hR : ∀ k, R k → k < B ∨ E ≤ k) : Rd w' E A n bs :=
 ⟨h.1, fun hn => by
  obtain ⟨b, o, e, hb, hc⟩ := h.2 hn
  obtain ⟨b', o', e', hB', _⟩ := ho.2 hn
  rw [e] at e'
  injection e' with e'; injection e' with e1 _
  have hB : B ≤ b := by omega
  have hne : ¬ R b := fun hh => by have := hR _ hh; omega
  have hlt : b < w.heap.size := Nat.lt_of_lt_of_le hb hE
  exact ⟨b, o, e, hb, fun j hj => by rw [← hc j hj]; exact hk.cell hlt hne⟩⟩
theorem RdP.keptE {l : List Pt} (h : RdP w E A n l) (hs : SpP w B A n) (hk : Keep R w w') (hE : E ≤ w.heap.size) (hR : ∀ k, R k → k < B ∨ E ≤ k) : RdP w' E A n l :=
 ⟨h.1, fun hn => by
  obtain ⟨b, o, e, hb, hc⟩ := h.2 hn
  obtain ⟨b', o', e', hB, hs'⟩ := hs hn
  rw [e] at e'
  injection e' with e'; injection e' with e1 e2
  subst e1; subst e2
  have hne : ¬ R b := fun hh => by have := hR _ hh; omega
  have hlt : b < w.heap.size := Nat.lt_of_lt_of_le hb hE
  refine ⟨b, o, e, hb, fun j hj => ?_⟩
  obtain ⟨A', m, c, h1, h2, h3⟩ := hc j hj
  obtain ⟨_, A2, m2, c2, bs2, h4, ho, _⟩ := hs' j hj
  have h5 : w.cell? ⟨b, o + j * 5 + 4, none⟩ = some (.slice A' m c) := h1 4 _ rfl
  rw [h4] at h5
  injection h5 with h5
  injection h5 with e3 e4 e5
  subst e3; subst e4; subst e5
  exact ⟨A2, m2, c2, fun i u hu => (hk.cell (a := ⟨b, _, none⟩) hlt hne).trans (h1 i u hu), h2.keptE ho hk hE hR, h3⟩⟩
theorem RdCf.keptE {v : CV} {c : Cf} (h : RdCf w E v c) (hs : Sp w B v) (hk : Keep R w w') (hE : E ≤ w.heap.size) (hR : ∀ k, R k → k < B ∨ E ≤ k) : RdCf w' E v c :=
 ⟨h.ww.keptE hs.ww hk hE hR, h.pp.keptE hs.pp hk hE hR, h.cc.keptE hs.cc hk hE hR, h.kw, h.kp, h.kc⟩
theorem Keep.weak {R R' : Nat → Prop} (h : Keep R w w') (hr : ∀ k, R k → R' k) : Keep R' w w' := ⟨h.os, h.tape, h.output, h.size, fun k hk hn => h.block k hk (fun hh => hn (hr k hh))⟩
end
end
end Go.Proofs.YtlmdidblgeeplaaGreatDoor