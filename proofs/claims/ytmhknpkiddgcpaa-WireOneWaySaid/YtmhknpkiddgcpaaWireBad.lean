/- A reader, a writer that nobody made (wire): what each function answers. -/
import Derived.Test.YtmhknpkiddgcpaaWireI
import Derived.Test.YtmhknpkiddgcpaaFldW
namespace Go.Proofs.Ytmhknpkiddgcpaa
open Go.RowKit
set_option linter.unusedVariables false
set_option linter.unusedSimpArgs false

/-- Nobody made it, and it stays so. -/
def BadR (p : Value) (w : World) : Prop := ∀ w', Below w.heap.size w w' → ErrIs p w' 1
theorem BadR.to {p : Value} {w w' : World} (h : BadR p w) (hb : Below w.heap.size w w') : BadR p w' := fun w'' hb' => h w'' (hb.trans (hb'.mono hb.size))
theorem BadR.err {p : Value} {w : World} (h : BadR p w) : ErrIs p w 1 := h w (Below.refl _ _)
theorem BadR.nil (w : World) : BadR (.pointer none) w := fun w' _ => errIs_nil w'
theorem BadR.unmade {w : World} {g : Nat} (hg : g < w.heap.size) (hc : w.cell? ⟨g, 0, none⟩ = some (.bool false)) : BadR (.pointer (some ⟨g, 0, none⟩)) w := fun w' hb => errIs_unmade g w' ((hb.cell hg).trans hc)
def BadW (p : Value) (w : World) : Prop := ∀ w', Below w.heap.size w w' → StIs p w' 1
theorem BadW.to {p : Value} {w w' : World} (h : BadW p w) (hb : Below w.heap.size w w') : BadW p w' := fun w'' hb' => h w'' (hb.trans (hb'.mono hb.size))
theorem BadW.st {p : Value} {w : World} (h : BadW p w) : StIs p w 1 := h w (Below.refl _ _)
theorem BadW.nil (w : World) : BadW (.pointer none) w := fun w' _ => stIs_nil w'
theorem BadW.unmade {w : World} {g : Nat} (hg : g < w.heap.size) (hc : w.cell? ⟨g, 0, none⟩ = some (.bool false)) : BadW (.pointer (some ⟨g, 0, none⟩)) w := fun w' hb => stIs_unmade g w' ((hb.cell hg).trans hc)

set_option maxRecDepth 100000 in
set_option maxHeartbeats 1000000 in
theorem bByte (p : Value) (w : World) (h : BadR p w) : Calls Try.prog 26 #[p] w fun e w' => e = .returned (.int .u8 0) ∧ Below w.heap.size w w' := by
  have H := Lib.hid h
  clear h
  go_enter Try.func26, Try.ntmps26
  go_wp2_with fail
  refine (wAlways 1 w).mono ?_
  rintro e w1 ⟨rfl, hc, _, hb⟩
  have B := Lib.hid hb
  clear hb hc
  go_wp2_with fail
  refine (takeByte_bad p _ _ 1 w1 (H.out w1 B.out) (by decide)).mono ?_
  rintro e w2 ⟨rfl, rfl⟩
  go_wp2_with fail
  go_ret
  exact ⟨rfl, B.out⟩
set_option maxRecDepth 100000 in
set_option maxHeartbeats 1000000 in
theorem bInt (p : Value) (w : World) (h : BadR p w) : Calls Try.prog 27 #[p] w fun e w' => e = .returned (.int .i64 0) ∧ Below w.heap.size w w' := by
  have H := Lib.hid h
  clear h
  go_enter Try.func27, Try.ntmps27
  go_wp2_with fail
  refine (wAlways 8 w).mono ?_
  rintro e w1 ⟨rfl, hc, _, hb⟩
  have B := Lib.hid hb
  clear hb hc
  go_wp2_with fail
  refine (takeInt_bad p _ _ 1 w1 (H.out w1 B.out) (by decide)).mono ?_
  rintro e w2 ⟨rfl, rfl⟩
  go_wp2_with fail
  go_ret
  exact ⟨rfl, B.out⟩
set_option maxRecDepth 100000 in
set_option maxHeartbeats 1000000 in
theorem bFlag (p : Value) (w : World) (h : BadR p w) : Calls Try.prog 28 #[p] w fun e w' => e = .returned (.bool false) ∧ Below w.heap.size w w' := by
  have H := Lib.hid h
  clear h
  go_enter Try.func28, Try.ntmps28
  go_wp2_with fail
  refine (takeBool_bad p _ _ 1 w H.out.err (by decide)).mono ?_
  rintro e w2 ⟨rfl, rfl⟩
  go_wp2_with fail
  go_ret
  exact ⟨rfl, Below.refl _ _⟩
set_option maxRecDepth 100000 in
set_option maxHeartbeats 1000000 in
theorem bBytes (p : Value) (w : World) (h : BadR p w) : Calls Try.prog 29 #[p] w fun e w' => e = .returned (.slice none 0 0) ∧ Below w.heap.size w w' := by
  have H := Lib.hid h
  clear h
  go_enter Try.func29, Try.ntmps29
  go_wp2_with fail
  refine (takeBytes_bad p _ _ 1 w H.out.err (by decide)).mono ?_
  rintro e w2 ⟨rfl, rfl⟩
  go_wp2_with fail
  go_ret
  exact ⟨rfl, Below.refl _ _⟩
set_option maxRecDepth 100000 in
set_option maxHeartbeats 1000000 in
theorem bText (p : Value) (w : World) (h : BadR p w) : Calls Try.prog 30 #[p] w fun e w' => e = .returned (.string (strB [])) ∧ Below w.heap.size w w' := by
  have H := Lib.hid h
  clear h
  go_enter Try.func30, Try.ntmps30
  go_wp2_with fail
  refine (takeText_bad p _ _ 1 w H.out.err (by decide)).mono ?_
  rintro e w2 ⟨rfl, rfl⟩
  go_wp2_with fail
  go_ret
  exact ⟨rfl, Below.refl _ _⟩
set_option maxRecDepth 100000 in
set_option maxHeartbeats 1000000 in
theorem bCount (p : Value) (most : Int) (w : World) (h : BadR p w) : Calls Try.prog 32 #[p, .int .i64 most] w fun e w' => e = .returned (.int .i64 0) ∧ Below w.heap.size w w' := by
  have hmf : ∀ (fn : Fn) (first cap : Array Value) (w : World), (Instr.makeFunc fn first cap).run Try.prog w = .ok (.func fn first cap) w := fun _ _ _ _ => rfl
  have hb : Below w.heap.size w (w.alloc (.cells #[.int .i64 most] 3)) := (Below.refl _ _).alloc (Nat.le_refl _) _
  have B := Lib.hid hb
  have H := Lib.hid (h _ hb)
  clear h hb
  go_enter Try.func32, Try.ntmps32
  go_wp2_with fail
  refine (takeInt_bad p _ _ 1 _ H.out (by decide)).mono ?_
  rintro e w2 ⟨rfl, rfl⟩
  go_wp2_with fail
  go_ret
  exact ⟨rfl, B.out⟩
set_option maxRecDepth 1000000 in
set_option maxHeartbeats 1000000 in
theorem takeTag_bad (p S V : Value) (w : World) (h : BadR p w) : Calls Try.prog 72 #[p, S, V] w fun e w' => e = .returned (.agg (arrB zeros32)) ∧ Below w.heap.size w w' := by
  have hz := tag_zero
  have h2 := two_tags w zeros32 rfl
  have TY := Lib.hid h2.1
  have TZ := Lib.hid h2.2
  have hb2 : Below w.heap.size w ((w.alloc (.cells (arrB zeros32) 29)).alloc (.cells (arrB zeros32) 29)) := ((Below.refl _ _).alloc (Nat.le_refl _) _).alloc (by simp) _
  have HE := Lib.hid (h _ hb2)
  have B := Lib.hid hb2
  have SZ : Hid ((Try.prog.info? 29).map (·.size) = some (arrB zeros32).size) := tag_size rfl
  clear h h2 hb2
  go_enter Try.func72, Try.ntmps72
  go_wp2_with fail
  clear hz
  generalize ((w.alloc (.cells (arrB zeros32) 29)).alloc (.cells (arrB zeros32) 29)) = w0 at *
  refine (HE.out).mono ?_
  rintro e w1 ⟨rfl, rfl⟩
  go_wp2_with (first | (refine wpList_load_row rfl 29 _ rfl (w.heap.size + 1) rfl 29 (arrB zeros32) (0, 0) _ TZ.out.2 Try.underlying29 rfl SZ.out ?_) | (refine wpList_store_row rfl 29 _ _ rfl w.heap.size (arrB zeros32) rfl rfl 29 (arrB zeros32) TY.out.2 SZ.out rfl (arrB_one _) ?_))
  (try simp only [Exit.inBlock, Exit.then])
  refine bodyPost_ret (v := .agg (arrB zeros32)) ?_ rfl ⟨rfl, below_setRow B.out (Nat.le_refl _) _⟩
  exact results_cell_row rfl _ _ w.heap.size 29 (arrB zeros32) (0, 0) _ rfl (setRow_heap _ _ _ _ _ _ TY.out.2) Try.underlying29 rfl SZ.out
set_option maxRecDepth 1000000 in
set_option maxHeartbeats 1000000 in
theorem bTag (p : Value) (w : World) (h : BadR p w) : Calls Try.prog 31 #[p] w fun e w' => e = .returned (.agg (arrB zeros32)) ∧ Below w.heap.size w w' := by
  have hz := tag_zero
  have hb0 : Below w.heap.size w (w.alloc (.cells (arrB zeros32) 29)) := (Below.refl _ _).alloc (Nat.le_refl _) _
  have T0 : Hid (TagAt (w.alloc (.cells (arrB zeros32) 29)) w.heap.size zeros32) := ⟨rfl, heap_alloc_last w _⟩
  have B := Lib.hid hb0
  have H := Lib.hid (h.to hb0)
  have SZ : Hid ((Try.prog.info? 29).map (·.size) = some (arrB zeros32).size) := tag_size rfl
  clear h hb0
  go_enter Try.func31, Try.ntmps31
  go_wp2_with fail
  clear hz
  generalize w.alloc (.cells (arrB zeros32) 29) = w0 at *
  refine (wAlways 32 w0).mono ?_
  rintro e w1 ⟨rfl, hc, hlt, hb⟩
  replace H := Lib.hid (H.out.to hb)
  replace T0 := Lib.hid (T0.out.below hb)
  replace B := Lib.hid (B.out.trans (hb.mono B.out.size))
  clear hb hc hlt
  go_wp2_with fail
  refine (takeTag_bad p _ _ w1 H.out).mono ?_
  rintro e w2 ⟨rfl, hb⟩
  replace T0 := Lib.hid (T0.out.below hb)
  replace B := Lib.hid (B.out.trans (hb.mono B.out.size))
  clear hb
  go_wp2_with (refine wpList_store_row rfl 29 _ _ rfl w.heap.size (arrB zeros32) rfl rfl 29 (arrB zeros32) T0.out.2 SZ.out rfl (arrB_one _) ?_)
  (try simp only [Exit.inBlock, Exit.then])
  refine bodyPost_ret (v := .agg (arrB zeros32)) ?_ rfl ⟨rfl, below_setRow B.out (Nat.le_refl _) _⟩
  exact results_cell_row rfl _ _ w.heap.size 29 (arrB zeros32) (0, 0) _ rfl (setRow_heap _ _ _ _ _ _ T0.out.2) Try.underlying29 rfl SZ.out

/-! The writer. -/
set_option maxRecDepth 100000 in
set_option maxHeartbeats 1000000 in
theorem cDone (p : Value) (w : World) (h : BadW p w) : Calls Try.prog 15 #[p] w fun e w' => e = .returned (.tuple #[.slice none 0 0, .int .i64 1]) ∧ w = w' := by
  have H := Lib.hid h.st
  clear h
  go_enter Try.func15, Try.ntmps15
  go_wp2_with fail
  refine (H.out).mono ?_
  rintro e w1 ⟨rfl, rfl⟩
  go_wp2_with fail
  go_ret2
  exact ⟨rfl, rfl⟩
set_option maxRecDepth 100000 in
set_option maxHeartbeats 1000000 in
theorem cByte (p : Value) (x : Int) (w : World) (h : BadW p w) : Calls Try.prog 44 #[p, .int .u8 x] w fun e w' => e = .returned p ∧ Below w.heap.size w w' := by
  have hs1 : (w.alloc (.cells #[.int .u8 x] 5)).heap.size = w.heap.size + 1 := by simp
  have hb : Below w.heap.size w ((w.alloc (.cells #[.int .u8 x] 5)).alloc (.cells #[.slice (some ⟨w.heap.size, 0, none⟩) 1 1] 26)) := ((Below.refl _ _).alloc (Nat.le_refl _) _).alloc (by rw [hs1]; omega) _
  have H := Lib.hid (h _ hb)
  have B := Lib.hid hb
  clear h hb hs1
  go_enter Try.func44, Try.ntmps44
  go_wp2_with fail
  refine (wAdd_bad p _ 1 _ H.out (by decide)).mono ?_
  rintro e w1 ⟨rfl, rfl⟩
  go_wp2_with fail
  go_ret
  exact ⟨rfl, B.out⟩
set_option maxRecDepth 100000 in
set_option maxHeartbeats 1000000 in
theorem cFlag (p : Value) (x : Bool) (w : World) (h : BadW p w) : Calls Try.prog 46 #[p, .bool x] w fun e w' => e = .returned p ∧ Below w.heap.size w w' := by
  have H := Lib.hid h
  clear h
  go_enter Try.func46, Try.ntmps46
  cases x
  · go_wp2_with fail
    refine (cByte p 0 w H.out).mono ?_
    rintro e w1 ⟨rfl, hb⟩
    have B := Lib.hid hb
    clear hb
    go_wp2_with fail
    go_ret
    exact ⟨rfl, B.out⟩
  · go_wp2_with fail
    refine (cByte p 1 w H.out).mono ?_
    rintro e w1 ⟨rfl, hb⟩
    have B := Lib.hid hb
    clear hb
    go_wp2_with fail
    go_ret
    exact ⟨rfl, B.out⟩
set_option maxRecDepth 100000 in
set_option maxHeartbeats 1000000 in
theorem cInt (p : Value) (x : Int) (w : World) (h : BadW p w) : Calls Try.prog 45 #[p, .int .i64 x] w fun e w' => e = .returned p ∧ Below w.heap.size w w' := by
  have h64 : IntKind.u64.wrap x = (u64N x : Int) := by rw [← u64N_eq]; simp only [IntKind.wrap_u64]
  have HL := Lib.hid (u64N_lt x)
  have H := Lib.hid h
  clear h
  go_enter Try.func45, Try.ntmps45
  go_wp2_with fail
  refine (wPut64 (u64N x) w HL.out).mono ?_
  rintro e w1 ⟨A1, n1, c1, rfl, hown, hb⟩
  have hb2 : Below w.heap.size w (w1.alloc (.cells #[.slice A1 n1 c1] 26)) := hb.alloc hb.size _
  have HE := Lib.hid (H.out _ hb2)
  have B := Lib.hid hb2
  clear hown hb hb2
  go_wp2_with fail
  refine (wAdd_bad p _ 1 _ HE.out (by decide)).mono ?_
  rintro e w2 ⟨rfl, rfl⟩
  go_wp2_with fail
  go_ret
  exact ⟨rfl, B.out⟩
set_option maxRecDepth 100000 in
set_option maxHeartbeats 1000000 in
theorem cBytes (p : Value) (A : Option Addr) (n c : Nat) (w : World) (h : BadW p w) (hn : n ≤ 1000000) : Calls Try.prog 47 #[p, .slice A n c] w fun e w' => e = .returned p ∧ Below w.heap.size w w' := by
  have H := Lib.hid h
  have h32 : IntKind.u32.wrap (n : Int) = (n : Int) := by rw [IntKind.wrap_u32']; omega
  clear h
  go_enter Try.func47, Try.ntmps47
  go_wp2_with fail
  refine (wPut32 n w (by omega)).mono ?_
  rintro e w1 ⟨A1, n1, c1, rfl, hown, hb⟩
  have hb2 : Below w.heap.size w (w1.alloc (.cells #[.slice A1 n1 c1, .slice A n c] 26)) := hb.alloc hb.size _
  have HE := Lib.hid (H.out _ hb2)
  have B := Lib.hid hb2
  clear hown hb hb2
  go_wp2_with fail
  refine (wAdd_bad p _ 1 _ HE.out (by decide)).mono ?_
  rintro e w2 ⟨rfl, rfl⟩
  go_wp2_with fail
  go_ret
  exact ⟨rfl, B.out⟩
set_option maxRecDepth 100000 in
set_option maxHeartbeats 1000000 in
theorem cText (p : Value) (bs : List UInt8) (w : World) (h : BadW p w) (hn : bs.length ≤ 1000000) : Calls Try.prog 48 #[p, .string (strB bs)] w fun e w' => e = .returned p ∧ Below w.heap.size w w' := by
  have kc := Lib.run_convert_string_bytes (P := Try.prog) w 9 26 5 (strB bs) Try.underlying9 Try.underlying26 Try.underlying5
  have hsz : (strB bs).size = bs.length := strB_size bs
  obtain ⟨c0, hc0⟩ : ∃ c0, grownCap w (strB bs).size 0 5 = c0 := ⟨_, rfl⟩
  rw [hc0] at kc
  have hb0 := Go.Joins.below_bytesWorld w.heap.size w 5 (strB bs) (Nat.le_refl _)
  rw [hsz] at kc
  obtain ⟨bn, hbn⟩ : ∃ n, bs.length = n := ⟨_, rfl⟩
  rw [hbn] at kc hn
  have H := Lib.hid (h.to hb0)
  have B0 := Lib.hid hb0
  obtain ⟨wb, hwb⟩ : ∃ wb, Lib.bytesWorld w 5 (strB bs) = wb := ⟨_, rfl⟩
  rw [hwb] at kc H B0
  clear h hb0 hsz hwb hc0 hbn
  go_enter Try.func48, Try.ntmps48
  go_wp2_with fail
  refine (cBytes p _ bn c0 wb H.out hn).mono ?_
  rintro e w2 ⟨rfl, hb⟩
  have B := Lib.hid (B0.out.trans (hb.mono B0.out.size))
  clear hb
  go_wp2_with fail
  go_ret
  exact ⟨rfl, B.out⟩
set_option maxRecDepth 1000000 in
set_option maxHeartbeats 1000000 in
theorem cTag (p : Value) (t : List UInt8) (w : World) (h : BadW p w) : Calls Try.prog 49 #[p, .agg (arrB t)] w fun e w' => e = .returned p ∧ Below w.heap.size w w' := by
  have hs1 : (w.alloc (.cells (arrB t) 29)).heap.size = w.heap.size + 1 := by simp
  have hb : Below w.heap.size w ((w.alloc (.cells (arrB t) 29)).alloc (.cells #[.slice (some ⟨w.heap.size, 0, none⟩) 32 32] 26)) := ((Below.refl _ _).alloc (Nat.le_refl _) _).alloc (by rw [hs1]; omega) _
  have H := Lib.hid (h _ hb)
  have B := Lib.hid hb
  have hsa := fun (g : Nat) => tag_slice32 g
  clear h hb hs1
  go_enter Try.func49, Try.ntmps49
  go_wp2_with fail
  refine (wAdd_bad p _ 1 _ H.out (by decide)).mono ?_
  rintro e w1 ⟨rfl, rfl⟩
  go_wp2_with fail
  go_ret
  exact ⟨rfl, B.out⟩
set_option maxRecDepth 1000000 in
set_option maxHeartbeats 2000000 in
theorem rAddBad (p : Value) (f : Fld) (A : Option Addr) (m c : Nat) (w : World) (h : BadW p w) (hf : FldOk w w.heap.size f A m c) (hm : m ≤ 1000000) :
    Calls Try.prog 14 #[p, .agg (fldL f A m c).toArray] w fun e w' => e = .returned p ∧ Below w.heap.size w w' := by
  have F0 := FldAt.new w f A m c 31
  have B : Hid (Below w.heap.size w (w.alloc (.cells (fldL f A m c).toArray 31))) := (Below.refl _ _).alloc (Nat.le_refl _) _
  have HW := Lib.hid (h.to B.out)
  have HR := Lib.hid (hf.rd.to B.out)
  have HM := Lib.hid hf.rd.1
  have HMC := Lib.hid (⟨hf.mc, hf.cc⟩ : m ≤ c ∧ c ≤ 140737488351232)
  have S5 := Lib.hid (show (Try.prog.info? 29).map (·.size) = some (f.t.map bval).length by rw [List.length_map, hf.tl]; exact (zero_of_info tag_info).2)
  obtain ⟨h0, h1, h2, h3, h4, h5, _⟩ := F0
  clear hf h
  go_enter Try.func14, Try.ntmps14
  generalize hwh : f.what = wh at *
  clear hwh
  by_cases c0 : wh = 0
  · subst c0
    go_wp2_with fail
    refine (cByte p _ _ HW.out).mono ?_
    rintro e w1 ⟨rfl, hb⟩
    have B1 := Lib.hid (B.out.trans (hb.mono B.out.size))
    clear hb
    go_wp2_with fail
    go_ret
    exact ⟨rfl, B1.out⟩
  by_cases c1 : wh = 1
  · subst c1
    go_wp2_with fail
    refine (cInt p f.n _ HW.out).mono ?_
    rintro e w1 ⟨rfl, hb⟩
    have B1 := Lib.hid (B.out.trans (hb.mono B.out.size))
    clear hb
    go_wp2_with fail
    go_ret
    exact ⟨rfl, B1.out⟩
  by_cases c2 : wh = 2
  · subst c2
    go_wp2_with fail
    refine (cFlag p f.is _ HW.out).mono ?_
    rintro e w1 ⟨rfl, hb⟩
    have B1 := Lib.hid (B.out.trans (hb.mono B.out.size))
    clear hb
    go_wp2_with fail
    go_ret
    exact ⟨rfl, B1.out⟩
  by_cases c3 : wh = 3
  · subst c3
    go_wp2_with fail
    refine (cBytes p A m c _ HW.out hm).mono ?_
    rintro e w1 ⟨rfl, hb⟩
    have B1 := Lib.hid (B.out.trans (hb.mono B.out.size))
    clear hb
    go_wp2_with fail
    go_ret
    exact ⟨rfl, B1.out⟩
  by_cases c4 : wh = 4
  · subst c4
    have hcv := HR.out.bytesIn.convert (by simp [numsOf, HM.out]) c 26 5 9 Try.underlying26 Try.underlying5 Try.underlying9
    rw [strB_nums] at hcv
    go_wp2_with fail
    refine (cText p f.b _ HW.out (by rw [HM.out]; exact hm)).mono ?_
    rintro e w1 ⟨rfl, hb⟩
    have B1 := Lib.hid (B.out.trans (hb.mono B.out.size))
    clear hb
    go_wp2_with fail
    go_ret
    exact ⟨rfl, B1.out⟩
  by_cases c5 : wh = 5
  · subst c5
    have hu := Try.underlying29
    go_wp2_with (refine wpList_load_mid rfl 29 _ rfl w.heap.size 5 rfl (f.t.map bval) _ h5 hu rfl S5.out ?_)
    refine (cTag p f.t _ HW.out).mono ?_
    rintro e w1 ⟨rfl, hb⟩
    have B1 := Lib.hid (B.out.trans (hb.mono B.out.size))
    clear hb
    go_wp2_with fail
    go_ret
    exact ⟨rfl, B1.out⟩
  · go_wp2_with fail
    go_ret
    exact ⟨rfl, B.out⟩
end Go.Proofs.Ytmhknpkiddgcpaa
