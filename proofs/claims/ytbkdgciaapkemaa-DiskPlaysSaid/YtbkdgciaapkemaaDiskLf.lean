/- What the laws of layer 6 share, further: two disks of the law's own; an act of the argument in any later world. -/
import Derived.Test.YtbkdgciaapkemaaDiskLe
namespace Go.Proofs.Ytbkdgciaapkemaa
open Go.RowKit
set_option linter.unusedVariables false
set_option linter.unusedSimpArgs false

structure Two (w wr : World) (da : Nat) (Fa : Nat → Prop) (sa : DS) (db : Nat) (Fb : Nat → Prop) (sb : DS) : Prop where
  a : Mine w wr da Fa sa
  b : Mine w wr db Fb sb
  dis : ∀ k, Fa k → ¬ Fb k
theorem Two.to {w wr w' : World} {da db : Nat} {Fa Fb : Nat → Prop} {sa sb : DS} (h : Two w wr da Fa sa db Fb sb) (hb : Below wr.heap.size wr w') : Two w w' da Fa sa db Fb sb := ⟨h.a.to hb, h.b.to hb, h.dis⟩
theorem Two.actA {w wr w' : World} {da db : Nat} {Fa Fb F' : Nat → Prop} {sa sb s' : DS} (h : Two w wr da Fa sa db Fb sb) (hd : Did w wr w' da Fa F' s') : Two w w' da F' s' db Fb sb :=
  ⟨hd.mine, h.b.kept hd.keep (fun k hk => ⟨h.a.lo k hk, h.dis k hk⟩), fun k hk hb => (hd.new k hk).elim (fun h' => h.dis k h' hb) (fun h' => by have := h.b.at_.lt k hb; omega)⟩
theorem Two.actB {w wr w' : World} {da db : Nat} {Fa Fb F' : Nat → Prop} {sa sb s' : DS} (h : Two w wr da Fa sa db Fb sb) (hd : Did w wr w' db Fb F' s') : Two w w' da Fa sa db F' s' :=
  ⟨h.a.kept hd.keep (fun k hk => ⟨h.b.lo k hk, fun ha => h.dis k ha hk⟩), hd.mine, fun k ha hk => (hd.new k hk).elim (fun h' => h.dis k ha h') (fun h' => by have := h.a.at_.lt k ha; omega)⟩
/-- The k-th act of the argument, in any later world. -/
theorem act_at {w : World} {a1 : Option Addr} {n : Nat} {l : List DAct} (R : RdA w w.heap.size a1 n l) {k : Nat} (hk : k < n) :
    ∃ b o A m c, a1 = some ⟨b, o, none⟩ ∧ Rd w w.heap.size A m (l.getD k DAct.zero).b ∧ ∀ wr, Below w.heap.size w wr →
      wr.cell? ⟨b, o + k * 3, none⟩ = some (.int .i64 (l.getD k DAct.zero).kind) ∧ wr.cell? ⟨b, o + k * 3 + 1, none⟩ = some (.int .i64 (l.getD k DAct.zero).n) ∧ wr.cell? ⟨b, o + k * 3 + 2, none⟩ = some (.slice A m c) ∧ ActOk wr wr.heap.size (l.getD k DAct.zero) A m c := by
  obtain ⟨b, o, e, hb, hc⟩ := R.2 (by omega)
  obtain ⟨A, m, c, h1, h2⟩ := hc k hk
  refine ⟨b, o, A, m, c, e, h2.rd, fun wr hbl => ⟨?_, ?_, ?_, (h2.below hbl).more hbl.size⟩⟩
  · exact (hbl.cell (p := ⟨b, o + k * 3, none⟩) hb).trans (h1 0 _ rfl)
  · exact (hbl.cell (p := ⟨b, o + k * 3 + 1, none⟩) hb).trans (h1 1 _ rfl)
  · exact (hbl.cell (p := ⟨b, o + k * 3 + 2, none⟩) hb).trans (h1 2 _ rfl)
theorem flushed_congr {sa sb : DS} (h : sa.L = sb.L) (i : Int) : sb.flushed i = sa.flushed i := by
  unfold DS.flushed DS.has
  rw [h]
theorem write_case {s : DS} (hu : s.up = true) (i : Int) (b : List UInt8) : s.write i b = if s.has i = false then (61, s) else if b.length ≠ 64 then (2, s) else if s.left = 1 then (60, s.fall (selB s.stay)) else (0, s.put i.toNat b) := by
  unfold DS.write
  rw [if_neg (by rw [hu]; decide)]
theorem flush_case {s : DS} (hu : s.up = true) : s.flush = if s.left = 1 then (60, s.fall (selB s.stay)) else (0, s.settled) := by
  unfold DS.flush
  rw [if_neg (by rw [hu]; decide)]
end Go.Proofs.Ytbkdgciaapkemaa
