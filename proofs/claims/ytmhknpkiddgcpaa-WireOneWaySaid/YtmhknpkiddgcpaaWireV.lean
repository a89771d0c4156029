/- The program's writer (wire), part two: Byte, Int, Flag, Bytes, Text, Tag, Done. -/
import Derived.Test.YtmhknpkiddgcpaaWireW
import Derived.Test.YtmhknpkiddgcpaaNumW
namespace Go.Proofs.Ytmhknpkiddgcpaa
open Go.RowKit
set_option linter.unusedVariables false
set_option linter.unusedSimpArgs false

theorem wAdd_failed (g : Nat) (F : Nat → Prop) (form b : List UInt8) (parts : Value) (w : World) (h : WrAt w g F form true) :
    Calls Try.prog 79 #[.pointer (some ⟨g, 0, none⟩), parts] w (WrTo w g F form b true) := by
  obtain ⟨v, h1, h2, h3, h4, h5⟩ := id h
  refine (wAdd_bad _ parts 3 w (stIs_made g v 3 w h1) (by decide)).mono ?_
  rintro e w' ⟨rfl, rfl⟩
  have e1 : wForm form b true = form := by unfold wForm; rw [if_neg (fun h => by cases h.1)]
  have e2 : wBad form b true = true := by unfold wBad; split <;> rfl
  exact ⟨rfl, F, by rw [e1, e2]; exact h, fun k h => .inl h, Keep.refl _ _⟩
theorem wAdd (g : Nat) (F : Nat → Prop) (form : List UInt8) (bad : Bool) (A : Option Addr) (n c : Nat) (bss : List (List UInt8)) (w : World) (h : WrAt w g F form bad) (hp : PartsAt w w.heap.size F A n bss) (hn : n ≤ 1000) (ht : bss.flatten.length ≤ 140737488355328) :
    Calls Try.prog 79 #[.pointer (some ⟨g, 0, none⟩), .slice A n c] w (WrTo w g F form bss.flatten bad) := by
  cases bad
  · exact wAdd_ok g F form A n c bss w h hp hn ht
  · exact wAdd_failed g F form _ _ w h
theorem tag_slice32 (g : Nat) (w : World) : (Instr.sliceAt 29 (.pointer (some ⟨g, 0, none⟩)) none none none).run Try.prog w = .ok (.slice (some ⟨g, 0, none⟩) 32 32) w := by
  have hl : Try.prog.arrayLen 29 = 32 := by kernel_rfl
  have he : Try.prog.elem 29 = 5 := by kernel_rfl
  have hs : (sizeOf 5).run Try.prog w = .ok 1 w := u8_size isU8 w
  rw [run_sliceAt_array_all (ht := by kernel_rfl), he, hl, hs]
  simp [Result.andThen, slicedAt, Addr.add]
/-- A call with one part, with two. -/
theorem wAdd1 (g : Nat) (F : Nat → Prop) (form : List UInt8) (bad : Bool) (A : Option Addr) (n c : Nat) (xs : List UInt8) (w : World) (h : WrAt w g F form bad) (ha : Rd w w.heap.size A n xs) (ho : Off A n F) (hn : n ≤ 140737488355328) :
    Calls Try.prog 79 #[.pointer (some ⟨g, 0, none⟩), .slice (some ⟨w.heap.size, 0, none⟩) 1 1] (w.alloc (.cells #[.slice A n c] 26)) (WrTo w g F form xs bad) := by
  have hb : Below w.heap.size w (w.alloc (.cells #[.slice A n c] 26)) := (Below.refl _ _).alloc (Nat.le_refl _) _
  have hp : PartsAt (w.alloc (.cells #[.slice A n c] 26)) (w.alloc (.cells #[.slice A n c] 26)).heap.size F (some ⟨w.heap.size, 0, none⟩) 1 [xs] := by
    refine ⟨rfl, fun _ => ⟨w.heap.size, 0, rfl, by simp, fun hf => absurd (h.lt _ hf) (Nat.lt_irrefl _), fun j hj => ?_⟩⟩
    obtain rfl : j = 0 := by omega
    exact ⟨A, n, c, by rw [World.cell?_alloc_at _ _ _ _ (by rfl)]; rfl, ha.to hb, ho⟩
  have hl := ha.1
  refine (wAdd g F form bad _ 1 1 [xs] _ (h.to hb) hp (by decide) (by simp; omega)).mono fun e w' hh => ?_
  have := hh.after hb
  simpa using this
/-- .. its row's block by a name of its own. -/
theorem wAdd1B (g : Nat) (F : Nat → Prop) (form : List UInt8) (bad : Bool) (A : Option Addr) (n c : Nat) (xs : List UInt8) (w : World) (B : Nat) (hB : w.heap.size = B) (h : WrAt w g F form bad) (ha : Rd w w.heap.size A n xs) (ho : Off A n F) (hn : n ≤ 140737488355328) :
    Calls Try.prog 79 #[.pointer (some ⟨g, 0, none⟩), .slice (some ⟨B, 0, none⟩) 1 1] (w.alloc (.cells #[.slice A n c] 26)) (WrTo w g F form xs bad) := by
  subst hB
  exact wAdd1 g F form bad A n c xs w h ha ho hn
theorem wAdd2 (g : Nat) (F : Nat → Prop) (form : List UInt8) (bad : Bool) (A A' : Option Addr) (n m c d : Nat) (xs ys : List UInt8) (w : World) (h : WrAt w g F form bad) (ha : Rd w w.heap.size A n xs) (ho : Off A n F) (ha' : Rd w w.heap.size A' m ys) (ho' : Off A' m F) (hn : n + m ≤ 140737488355328) :
    Calls Try.prog 79 #[.pointer (some ⟨g, 0, none⟩), .slice (some ⟨w.heap.size, 0, none⟩) 2 2] (w.alloc (.cells #[.slice A n c, .slice A' m d] 26)) (WrTo w g F form (xs ++ ys) bad) := by
  have hb : Below w.heap.size w (w.alloc (.cells #[.slice A n c, .slice A' m d] 26)) := (Below.refl _ _).alloc (Nat.le_refl _) _
  have hp : PartsAt (w.alloc (.cells #[.slice A n c, .slice A' m d] 26)) (w.alloc (.cells #[.slice A n c, .slice A' m d] 26)).heap.size F (some ⟨w.heap.size, 0, none⟩) 2 [xs, ys] := by
    refine ⟨rfl, fun _ => ⟨w.heap.size, 0, rfl, by simp, fun hf => absurd (h.lt _ hf) (Nat.lt_irrefl _), fun j hj => ?_⟩⟩
    rcases j with _ | _ | j
    · exact ⟨A, n, c, by rw [World.cell?_alloc_at _ _ _ _ (by rfl)]; rfl, ha.to hb, ho⟩
    · exact ⟨A', m, d, by rw [World.cell?_alloc_at _ _ _ _ (by rfl)]; rfl, ha'.to hb, ho'⟩
    · omega
  have hl := ha.1
  have hl' := ha'.1
  refine (wAdd g F form bad _ 2 2 [xs, ys] _ (h.to hb) hp (by decide) (by simp; omega)).mono fun e w' hh => ?_
  have := hh.after hb
  simpa using this

set_option maxRecDepth 100000 in
set_option maxHeartbeats 1000000 in
theorem wByte (g : Nat) (F : Nat → Prop) (form : List UInt8) (bad : Bool) (x : UInt8) (w : World) (h : WrAt w g F form bad) : Calls Try.prog 44 #[.pointer (some ⟨g, 0, none⟩), .int .u8 (x.toNat : Int)] w (WrTo w g F form [x] bad) := by
  have hb : Below w.heap.size w (w.alloc (.cells #[.int .u8 (x.toNat : Int)] 5)) := (Below.refl _ _).alloc (Nat.le_refl _) _
  have hsz : (w.alloc (.cells #[.int .u8 (x.toNat : Int)] 5)).heap.size = w.heap.size + 1 := by simp
  have r0 : Rd (w.alloc (.cells #[.int .u8 (x.toNat : Int)] 5)) (w.alloc (.cells #[.int .u8 (x.toNat : Int)] 5)).heap.size (some ⟨w.heap.size, 0, none⟩) 1 [x] := by
    rw [hsz]
    exact Rd.lit (w := w) [x] [.int .u8 (x.toNat : Int)] 5 rfl
  have R := Lib.hid r0
  have HSZ := Lib.hid hsz
  have HO : Hid (Off (some ⟨w.heap.size, 0, none⟩) 1 F) := fun _ b o e hf => by
    injection e with e; injection e with e1 _
    have := h.lt _ hf; omega
  have H := Lib.hid (h.to hb)
  have B := Lib.hid hb
  clear h hb r0 hsz
  go_enter Try.func44, Try.ntmps44
  go_wp2_with fail
  refine (wAdd1B g F form bad (some ⟨w.heap.size, 0, none⟩) 1 1 [x] (w.alloc (.cells #[.int .u8 (x.toNat : Int)] 5)) (w.heap.size + 1) HSZ.out H.out R.out HO.out (by decide)).mono ?_
  intro e w1 h
  have T := Lib.hid (h.after B.out)
  obtain ⟨rfl, _⟩ := h
  go_wp2_with fail
  go_ret
  exact T.out
set_option maxRecDepth 100000 in
set_option maxHeartbeats 1000000 in
theorem wInt (g : Nat) (F : Nat → Prop) (form : List UInt8) (bad : Bool) (x : Int) (w : World) (h : WrAt w g F form bad) : Calls Try.prog 45 #[.pointer (some ⟨g, 0, none⟩), .int .i64 x] w (WrTo w g F form (enc (u64N x) 8) bad) := by
  have h64 : IntKind.u64.wrap x = (u64N x : Int) := by rw [← u64N_eq]; simp only [IntKind.wrap_u64]
  have HL := Lib.hid (u64N_lt x)
  have HE := Lib.hid (enc_len (u64N x) 8)
  have H := Lib.hid h
  clear h
  go_enter Try.func45, Try.ntmps45
  go_wp2_with fail
  refine (wPut64 (u64N x) w HL.out).mono ?_
  obtain ⟨es, hes⟩ : ∃ l, enc (u64N x) 8 = l := ⟨_, rfl⟩
  rw [hes] at HE ⊢
  have HES := Lib.hid hes
  clear hes
  rintro e w1 ⟨A1, n1, c1, rfl, hown, hb⟩
  obtain rfl : n1 = 8 := (Rd.of_own hown).1.symm.trans HE.out
  have O := Lib.hid (OwR.of_own hown)
  have B := Lib.hid hb
  have HO : Hid (Off A1 8 F) := O.out.off (fun k hk => H.out.lt k hk)
  replace H := Lib.hid (H.out.to hb)
  clear hown hb
  go_wp2_with fail
  refine (wAdd1 g F form bad A1 8 c1 es w1 H.out O.out.1 HO.out (by decide)).mono ?_
  intro e w2 h
  have T := Lib.hid (h.after B.out)
  obtain ⟨rfl, _⟩ := h
  go_wp2_with fail
  go_ret
  rw [HES.out]
  exact T.out
set_option maxRecDepth 100000 in
set_option maxHeartbeats 1000000 in
theorem wFlag (g : Nat) (F : Nat → Prop) (form : List UInt8) (bad : Bool) (x : Bool) (w : World) (h : WrAt w g F form bad) : Calls Try.prog 46 #[.pointer (some ⟨g, 0, none⟩), .bool x] w (WrTo w g F form [flagB x] bad) := by
  have H := Lib.hid h
  clear h
  go_enter Try.func46, Try.ntmps46
  cases x
  · go_wp2_with fail
    refine (wByte g F form bad 0 w H.out).mono ?_
    intro e w2 h
    have T := Lib.hid h
    obtain ⟨rfl, _⟩ := h
    go_wp2_with fail
    go_ret
    exact T.out
  · go_wp2_with fail
    refine (wByte g F form bad 1 w H.out).mono ?_
    intro e w2 h
    have T := Lib.hid h
    obtain ⟨rfl, _⟩ := h
    go_wp2_with fail
    go_ret
    exact T.out
set_option maxRecDepth 100000 in
set_option maxHeartbeats 1000000 in
theorem wBytes (g : Nat) (F : Nat → Prop) (form : List UInt8) (bad : Bool) (A : Option Addr) (n c : Nat) (bs : List UInt8) (w : World) (h : WrAt w g F form bad) (hr : Rd w w.heap.size A n bs) (ho : Off A n F) (hc : n ≤ c) (hc' : c ≤ 9223372036854775807) (hn : n ≤ 1000000) : Calls Try.prog 47 #[.pointer (some ⟨g, 0, none⟩), .slice A n c] w (WrTo w g F form (enc bs.length 4 ++ bs) bad) := by
  have H := Lib.hid h
  have R := Lib.hid hr
  have HO := Lib.hid ho
  have h32 : IntKind.u32.wrap (n : Int) = (n : Int) := by rw [IntKind.wrap_u32']; omega
  have HE := Lib.hid (enc_len n 4)
  have HLN := Lib.hid hr.1
  clear h hr ho
  rw [HLN.out]
  go_enter Try.func47, Try.ntmps47
  go_wp2_with fail
  refine (wPut32 n w (by omega)).mono ?_
  obtain ⟨es, hes⟩ : ∃ l, enc n 4 = l := ⟨_, rfl⟩
  rw [hes] at HE ⊢
  have HES := Lib.hid hes
  clear hes
  rintro e w1 ⟨A1, n1, c1, rfl, hown, hb⟩
  obtain rfl : n1 = 4 := (Rd.of_own hown).1.symm.trans HE.out
  have O := Lib.hid (OwR.of_own hown)
  have B := Lib.hid hb
  have HO1 : Hid (Off A1 4 F) := O.out.off (fun k hk => H.out.lt k hk)
  replace H := Lib.hid (H.out.to hb)
  replace R := Lib.hid (R.out.to hb)
  clear hown hb
  go_wp2_with fail
  refine (wAdd2 g F form bad A1 A 4 n c1 c es bs w1 H.out O.out.1 HO1.out R.out HO.out (by omega)).mono ?_
  intro e w2 h
  have T := Lib.hid (h.after B.out)
  obtain ⟨rfl, _⟩ := h
  go_wp2_with fail
  go_ret
  rw [HES.out]
  exact T.out
set_option maxRecDepth 100000 in
set_option maxHeartbeats 1000000 in
theorem wText (g : Nat) (F : Nat → Prop) (form : List UInt8) (bad : Bool) (bs : List UInt8) (w : World) (h : WrAt w g F form bad) (hn : bs.length ≤ 1000000) : Calls Try.prog 48 #[.pointer (some ⟨g, 0, none⟩), .string (strB bs)] w (WrTo w g F form (enc bs.length 4 ++ bs) bad) := by
  have kc := Lib.run_convert_string_bytes (P := Try.prog) w 9 26 5 (strB bs) Try.underlying9 Try.underlying26 Try.underlying5
  have hsz : (strB bs).size = bs.length := strB_size bs
  have hg1 := grownCap_ge w (strB bs).size 0 5
  have hg2 := grownCap_le_maxLen w (strB bs).size 0 5 (by unfold maxLen; omega)
  obtain ⟨c0, hc0⟩ : ∃ c0, grownCap w (strB bs).size 0 5 = c0 := ⟨_, rfl⟩
  rw [hc0] at kc hg1 hg2
  have l0 := rd_bytesWorld w 5 (strB bs)
  have hb0 := Go.Joins.below_bytesWorld w.heap.size w 5 (strB bs) (Nat.le_refl _)
  have hd : (strB bs).data.toList = bs := by simp [strB]
  rw [hd] at l0
  rw [hsz] at kc l0 hg1
  obtain ⟨bn, hbn⟩ : ∃ n, bs.length = n := ⟨_, rfl⟩
  have HBN := Lib.hid hbn
  rw [hbn] at kc l0 hn hg1
  have H := Lib.hid (h.to hb0)
  have B0 := Lib.hid hb0
  have L0 := Lib.hid l0
  have HG1 := Lib.hid hg1
  have HG2 : Hid (c0 ≤ 9223372036854775807) := by (show _ ≤ _); unfold maxLen at hg2; omega
  have HO : Hid (Off (some ⟨w.heap.size, 0, none⟩) bn F) := fun _ b o e hf => by
    injection e with e; injection e with e1 _
    have := h.lt _ hf; omega
  have HNN : Hid (bn ≤ 1000000) := hn
  obtain ⟨wb, hwb⟩ : ∃ wb, Lib.bytesWorld w 5 (strB bs) = wb := ⟨_, rfl⟩
  rw [hwb] at kc H B0 L0
  clear h hb0 l0 hd hsz hwb hc0 hg1 hg2 hn hbn
  go_enter Try.func48, Try.ntmps48
  go_wp2_with fail
  refine (wBytes g F form bad _ bn c0 bs wb H.out L0.out HO.out HG1.out HG2.out HNN.out).mono ?_
  intro e w2 h
  have T := Lib.hid (h.after B0.out)
  obtain ⟨rfl, _⟩ := h
  go_wp2_with fail
  go_ret
  exact T.out
set_option maxRecDepth 1000000 in
set_option maxHeartbeats 1000000 in
theorem wTag (g : Nat) (F : Nat → Prop) (form : List UInt8) (bad : Bool) (t : List UInt8) (w : World) (h : WrAt w g F form bad) (hl : t.length = 32) : Calls Try.prog 49 #[.pointer (some ⟨g, 0, none⟩), .agg (arrB t)] w (WrTo w g F form t bad) := by
  have hb0 : Below w.heap.size w (w.alloc (.cells (arrB t) 29)) := (Below.refl _ _).alloc (Nat.le_refl _) _
  have T0 : TagAt (w.alloc (.cells (arrB t) 29)) w.heap.size t := ⟨hl, heap_alloc_last w _⟩
  have R := Lib.hid T0.rd
  have HSZ : Hid ((w.alloc (.cells (arrB t) 29)).heap.size = w.heap.size + 1) := by (show _ = _); simp
  have H := Lib.hid (h.to hb0)
  have B0 := Lib.hid hb0
  have HO : Hid (Off (some ⟨w.heap.size, 0, none⟩) 32 F) := fun _ b o e hf => by
    injection e with e; injection e with e1 _
    have := h.lt _ hf; omega
  have hsa := fun (g : Nat) => tag_slice32 g
  clear h hb0 T0
  go_enter Try.func49, Try.ntmps49
  go_wp2_with fail
  refine (wAdd1B g F form bad (some ⟨w.heap.size, 0, none⟩) 32 32 t (w.alloc (.cells (arrB t) 29)) (w.heap.size + 1) HSZ.out H.out R.out HO.out (by decide)).mono ?_
  intro e w2 h
  have T := Lib.hid (h.after B0.out)
  obtain ⟨rfl, _⟩ := h
  go_wp2_with fail
  go_ret
  exact T.out
set_option maxRecDepth 100000 in
set_option maxHeartbeats 1000000 in
theorem wDone (g : Nat) (F : Nat → Prop) (form : List UInt8) (bad : Bool) (w : World) (h : WrAt w g F form bad) : Calls Try.prog 15 #[.pointer (some ⟨g, 0, none⟩)] w fun e w' => ∃ A n c, e = .returned (.tuple #[.slice A n c, .int .i64 (if bad then 3 else 0)]) ∧ OwR w' w.heap.size A n (if bad then [] else form) ∧ n ≤ c ∧ c ≤ 9223372036854775807 ∧ Below w.heap.size w w' := by
  obtain ⟨v, h1, h2, h3, h4, h5⟩ := h
  cases bad
  · obtain ⟨hown, hfl⟩ := h5 rfl
    obtain ⟨A0, c0, rfl⟩ := own_slice hown
    have HS := Lib.hid (stIs_made g _ 0 w h1)
    have HR := Lib.hid (Rd.of_own hown)
    obtain ⟨x0, x1, x2, y0, y1, y2⟩ := cells3 h1
    obtain ⟨fl, hfll⟩ : ∃ n, form.length = n := ⟨_, rfl⟩
    rw [hfll] at x1 hfl HR
    clear h1 h2 h3 h4 h5 hown hfll
    go_enter Try.func15, Try.ntmps15
    go_wp2_with fail
    refine (HS.out).mono ?_
    rintro e w1 ⟨rfl, rfl⟩
    go_wp2_with fail
    refine (wCat1 A0 fl c0 form w HR.out (by omega)).mono ?_
    rintro e w1 ⟨A1, n1, c1, rfl, hown1, hb⟩
    have O := Lib.hid (OwR.of_own hown1)
    have HC := Lib.hid (own_cap hown1)
    have B := Lib.hid hb
    clear hown1 hb
    go_wp2_with fail
    go_ret2
    exact ⟨_, _, _, rfl, O.out, HC.out.1, HC.out.2, B.out⟩
  · have HS := Lib.hid (stIs_made g _ 3 w h1)
    clear h1 h2 h3 h4 h5
    go_enter Try.func15, Try.ntmps15
    go_wp2_with fail
    refine (HS.out).mono ?_
    rintro e w1 ⟨rfl, rfl⟩
    go_wp2_with fail
    go_ret2
    exact ⟨_, _, _, rfl, ⟨Rd.nil _ _ _, fun h => absurd h (Nat.lt_irrefl 0)⟩, Nat.le_refl _, by decide, Below.refl _ _⟩
end Go.Proofs.Ytmhknpkiddgcpaa
