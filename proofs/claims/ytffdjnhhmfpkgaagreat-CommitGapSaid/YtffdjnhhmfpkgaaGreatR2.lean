/- Several texts in one (a claim has 60 files at most): HmacKit, Keep, HmacM, ShaLawA, HmacRef, Fld, FldW, ShaRefH. -/
import Derived.Test.YtffdjnhhmfpkgaaGreatTz
import Derived.Test.YtffdjnhhmfpkgaaGreatKitO
import Derived.Test.YtffdjnhhmfpkgaaGreatR1
import Derived.Test.YtffdjnhhmfpkgaaGreatOpen
import Derived.Deep.Slices
import Derived.Deep.Fields
import Derived.ChangeSame
import Derived.SizedLaws
import Derived.Deep.MidRow
import Derived.Laws.BytesString
namespace Go.Proofs.YtffdjnhhmfpkgaaGreat
set_option maxRecDepth 1000000
set_option maxHeartbeats 8000000
set_option linter.unusedVariables false
set_option linter.unusedSimpArgs false
section
open Go.RowKit
theorem OwR.tag {w : World} {B g : Nat} {bs : List UInt8} (h : TagAt w g bs) (hg : B ≤ g) : OwR w B (some ⟨g, 0, none⟩) 32 bs :=
 ⟨h.rd, fun _ => ⟨g, 0, rfl, hg, fun j hj => by rw [Nat.zero_add]; exact (h.cell hj).2⟩⟩
end
section
end
section
def shortL (k : List UInt8) : List UInt8 := if k.length ≤ 64 then k else shaL k
theorem shortL_len (k : List UInt8) : (shortL k).length ≤ 64 := by
 unfold shortL
 split
 ·assumption
 ·rw [shaL_len]; decide
def maskL (k : List UInt8) (x : UInt8) : List UInt8 := (List.range 64).map fun i => (shortL k).getD i 0 ^^^ x
theorem maskL_len (k : List UInt8) (x : UInt8) : (maskL k x).length = 64 := by simp [maskL]
def hmacL (k b : List UInt8) : List UInt8 := shaL (maskL k 92 ++ shaL (maskL k 54 ++ b))
theorem hmacL_len (k b : List UInt8) : (hmacL k b).length = 32 := shaL_len _
def formL (label : List UInt8) (l : List Nat) : List UInt8 := label ++ [0] ++ (l.map fun x => enc x 8).flatten
theorem formL_len (label : List UInt8) (l : List Nat) : (formL label l).length = label.length + 1 + 8 * l.length := by
 unfold formL
 rw [List.length_append, List.length_append]
 have : ∀ l : List Nat, ((l.map fun x => enc x 8).flatten).length = 8 * l.length := by
  intro l
  induction l with
  | nil => rfl
  | cons x l ih => rw [List.map_cons, List.flatten_cons, List.length_append, enc_len, ih, List.length_cons]; omega
 rw [this]; rfl
def sealL (k b : List UInt8) : List UInt8 := b ++ hmacL k b
theorem sealL_len (k b : List UInt8) : (sealL k b).length = b.length + 32 := by rw [sealL, List.length_append, hmacL_len]
def hmOk (k s : List UInt8) : Bool := decide (32 ≤ s.length) && decide (sealL k (s.take (s.length - 32)) = s)
def openL (k s : List UInt8) : List UInt8 := if hmOk k s then s.take (s.length - 32) else []
theorem open_seal (k b : List UInt8) : hmOk k (sealL k b) = true ∧ openL k (sealL k b) = b := by
 have h1 : (sealL k b).take ((sealL k b).length - 32) = b := by
  rw [sealL_len, Nat.add_sub_cancel]
  exact List.take_left' rfl
 have h2 : hmOk k (sealL k b) = true := by
  unfold hmOk
  rw [h1, sealL_len]
  simp
 exact ⟨h2, by rw [openL, if_pos h2, h1]⟩
def maskN (s : List UInt8) (x : UInt8) (n : Nat) : List UInt8 := (List.range n).map fun i => s.getD i 0 ^^^ x
theorem maskN_succ (s : List UInt8) (x : UInt8) (n : Nat) : maskN s x (n + 1) = maskN s x n ++ [s.getD n 0 ^^^ x] := by
 unfold maskN
 rw [List.range_succ, List.map_append]; rfl
theorem maskN_all (k : List UInt8) (x : UInt8) : maskN (shortL k) x 64 = maskL k x := rfl
def u64N (x : Int) : Nat := (x % 18446744073709551616).toNat
theorem u64N_lt (x : Int) : u64N x < 18446744073709551616 := by unfold u64N; omega
theorem u64N_eq (x : Int) : x % 18446744073709551616 = (u64N x : Int) := by unfold u64N; omega
def formI (label : List UInt8) (l : List Int) : List UInt8 := formL label (l.map u64N)
theorem formI_nil (label : List UInt8) : formI label [] = label ++ [0] := by simp [formI, formL]
theorem formI_snoc (label : List UInt8) (l : List Int) (x : Int) : formI label (l ++ [x]) = formI label l ++ enc (u64N x) 8 := by
 simp [formI, formL]
theorem formI_len (label : List UInt8) (l : List Int) : (formI label l).length = label.length + 1 + 8 * l.length := by
 unfold formI
 rw [formL_len, List.length_map]
end
section
open Go.RowKit
def arrN (k : IntKind) (xs : List Nat) : Array Value := (xs.map (kv k)).toArray
theorem arrN_size (k : IntKind) (xs : List Nat) : (arrN k xs).size = xs.length := by simp [arrN]
theorem arrN_at {k : IntKind} {xs : List Nat} {j : Nat} (h : j < xs.length) : (arrN k xs)[j]? = some (.int k (nx xs j : Int)) := by
 simp [arrN, h, nx_of_lt h, kv]
theorem arrN_one (k : IntKind) (xs : List Nat) : (arrN k xs).all (·.oneCell') = true := by
 rw [Array.all_eq_true]
 intro i hi
 simp [arrN, kv]
 rfl
end
section
open Go.RowKit
def TbRel (w : World) (t : List UInt8) (v i : Value) (wr : World) : Prop :=
 ∃ k : Nat, k ≤ 32 ∧ i = .int .i64 (k : Int) ∧ wr.ownsRow (w.heap.size + 1) 5 1 v k ((t.take k).map bval) ∧ wr.heap[w.heap.size]? = some (.cells (arrB t) 32 (0, 0)) ∧ Below (w.heap.size + 1) (w.alloc (.cells (arrB t) 32)) wr
theorem rTagBytes (t : List UInt8) (w : World) (hl : t.length = 32) :
  Calls Tryz.prog 80 #[.agg (arrB t)] w fun e w' => RetB 5 w t e w' := by
 have HS := qH hl
 clear hl
 go_enter Tryz.func80, Tryz.ntmps80
 go_wp2
 go_loopw [3, 4] (fun v i wr => TbRel w t v i wr) (fun _ i _ => 32 - (intOf i).toNat)   -- the slots: look at ops.sh
 case atStart => exact ⟨0, Nat.zero_le _, rfl, by simpa using World.ownsRow_nil _ _ 5 1, heap_alloc_last w _, Below.refl _ _⟩
 case round =>
  obtain ⟨k, hk, rfl, hown, hh, hb⟩ := hrel
  have HO := qH hown
  have HH := qH hh
  have HB := qH hb
  have HK := qH hk
  have hsz : w.heap.size + 1 ≤ wr.heap.size := by have := hb.size; simpa using this
  clear hown hh hb hk
  by_cases h32 : (k : Int) < 32
  ·have hcell : wr.cell? ⟨w.heap.size, k, none⟩ = some (.int .u8 (nth t k : Int)) := by
    rw [cell_of_row _ _ k _ _ (0, 0) HH.out]
    exact arrB_at (by rw [HS.out]; omega)
   have HE := qH (take_snoc_getD (bs := t) (k := k) (by rw [HS.out]; omega))
   have HN : Hid ((nth t k : Int) = ((t.getD k 0).toNat : Int)) := rfl
   go_wp2_with (at_builtin; refine wpList_push isU8 rfl _ _ rfl rfl rfl HO.out HB.out hsz (by have := HK.out; omega) (t.getD k 0) HN.out ?_; intro v1 w1 hown1 hbel1 hsz1)
   go_roundw
   case rel =>
    refine ⟨k + 1, by omega, by go_num, by rw [HE.out]; exact hown1, ?_, hbel1⟩
    rw [hbel1.block _ (Nat.lt_succ_self _)]; exact heap_alloc_last w _
   case measure => simp [intOf]; omega
  ·obtain rfl : k = 32 := by have := HK.out; omega
   have e : t.take 32 = t := List.take_of_length_le (by rw [HS.out]; exact Nat.le_refl _)
   have h := HO.out
   rw [e] at h
   have h1 := qH (own_mono h (Nat.le_succ _))
   have h2 : Hid (Below w.heap.size w wr) := ((Below.refl w.heap.size w).alloc (Nat.le_refl _) _).trans (HB.out.mono (Nat.le_succ _))
   clear h e
   go_wp2
   go_ret
   exact RetB.mk h1.out h2.out
def MaskRel (w1 : World) (s : List UInt8) (x : UInt8) (v i : Value) (wr : World) : Prop :=
 ∃ k : Nat, k ≤ 64 ∧ i = .int .i64 (k : Int) ∧ wr.ownsRow w1.heap.size 5 1 v k ((maskN s x k).map bval) ∧ Below w1.heap.size w1 wr
end
section
open Go.RowKit Go.ChangeShapes Go.WideShapes Go.Deep
structure Fld where
 what : Int
 x : UInt8
 n : Int
 is : Bool
 b : List UInt8
 t : List UInt8
def Fld.zero : Fld := ⟨0, 0, 0, false, [], zeros32⟩
def fldL (f : Fld) (A : Option Addr) (m c : Nat) : List Value := .int .i64 f.what :: .int .u8 (f.x.toNat : Int) :: .int .i64 f.n :: .bool f.is :: .slice A m c :: f.t.map bval
structure FldOk (w : World) (B : Nat) (f : Fld) (A : Option Addr) (m c : Nat) : Prop where
 tl : f.t.length = 32
 wh : -9223372036854775808 ≤ f.what ∧ f.what ≤ 9223372036854775807
 nn : -9223372036854775808 ≤ f.n ∧ f.n ≤ 9223372036854775807
 rd : Rd w B A m f.b
 mc : m ≤ c
 cc : c ≤ 140737488351232
theorem FldOk.below {w w' : World} {B : Nat} {f : Fld} {A : Option Addr} {m c : Nat} (h : FldOk w B f A m c) (hb : Below B w w') : FldOk w' B f A m c := ⟨h.tl, h.wh, h.nn, h.rd.below hb, h.mc, h.cc⟩
theorem FldOk.more {w : World} {B B' : Nat} {f : Fld} {A : Option Addr} {m c : Nat} (h : FldOk w B f A m c) (hB : B ≤ B') : FldOk w B' f A m c := ⟨h.tl, h.wh, h.nn, h.rd.more hB, h.mc, h.cc⟩
theorem FldOk.to {w w' : World} {f : Fld} {A : Option Addr} {m c : Nat} (h : FldOk w w.heap.size f A m c) (hb : Below w.heap.size w w') : FldOk w' w'.heap.size f A m c := (h.below hb).more hb.size
theorem fldL_len {f : Fld} (h : f.t.length = 32) (A : Option Addr) (m c : Nat) : (fldL f A m c).length = 37 := by simp [fldL, h]
def RdF (w : World) (B : Nat) (A : Option Addr) (n : Nat) (fs : List Fld) : Prop :=
 fs.length = n ∧ (0 < n → ∃ b o, A = some ⟨b, o, none⟩ ∧ b < B ∧ ∀ j, j < n → ∃ A' m c, w.rangeAt b (o + j * 37) (fldL (fs.getD j Fld.zero) A' m c) ∧ FldOk w B (fs.getD j Fld.zero) A' m c)
theorem rangeAt_below {w w' : World} {B b o : Nat} {cs : List Value} (h : w.rangeAt b o cs) (hb : Below B w w') (hlt : b < B) : w'.rangeAt b o cs := fun j v hv => (hb.cell (by exact hlt)).trans (h j v hv)
theorem RdF.below {w w' : World} {B n : Nat} {A : Option Addr} {fs : List Fld} (h : RdF w B A n fs) (hb : Below B w w') : RdF w' B A n fs :=
 ⟨h.1, fun hn => by
  obtain ⟨b, o, e, hB, hc⟩ := h.2 hn
  refine ⟨b, o, e, hB, fun j hj => ?_⟩
  obtain ⟨A', m, c, h1, h2⟩ := hc j hj
  exact ⟨A', m, c, rangeAt_below h1 hb hB, h2.below hb⟩⟩
theorem RdF.more {w : World} {B B' n : Nat} {A : Option Addr} {fs : List Fld} (h : RdF w B A n fs) (hB : B ≤ B') : RdF w B' A n fs :=
 ⟨h.1, fun hn => by
  obtain ⟨b, o, e, hb, hc⟩ := h.2 hn
  refine ⟨b, o, e, by omega, fun j hj => ?_⟩
  obtain ⟨A', m, c, h1, h2⟩ := hc j hj
  exact ⟨A', m, c, h1, h2.more hB⟩⟩
theorem RdF.to {w w' : World} {n : Nat} {A : Option Addr} {fs : List Fld} (h : RdF w w.heap.size A n fs) (hb : Below w.heap.size w w') : RdF w' w'.heap.size A n fs := (h.below hb).more hb.size
section
variable {H : Type} {enc : TypeId × Value → H} {W : World} {base : Nat} {held : Bool}
end
end
section
open Go.RowKit
def sumF (fs : List Fld) : Nat := (fs.map fun f => 40 + f.b.length).sum
theorem sumF_take (fs : List Fld) (k : Nat) : sumF (fs.take k) ≤ sumF fs := by
 induction fs generalizing k with
 | nil => simp [sumF]
 | cons f fs ih =>
  cases k with
  | zero => simp [sumF]
  | succ k => simp only [List.take_succ_cons, sumF, List.map_cons, List.sum_cons] at ih ⊢; have := ih k; omega
theorem sumF_snoc {fs : List Fld} {k : Nat} (h : k < fs.length) : sumF (fs.take (k + 1)) = sumF (fs.take k) + (40 + (fs.getD k Fld.zero).b.length) := by
 rw [List.take_succ_eq_append_getElem h]
 simp only [sumF, List.map_append, List.sum_append, List.map_cons, List.map_nil, List.sum_cons, List.sum_nil, List.getD, List.getElem?_eq_getElem h, Option.getD_some, Nat.add_zero]
def GreatRel (w : World) (fs : List Fld) (n : Nat) (s i : Value) (wr : World) : Prop := ∃ k, k ≤ n ∧ i = .int .i64 (k : Int) ∧ s = .int .i64 (sumF (fs.take k) : Int) ∧ sumF (fs.take k) ≤ 5000 ∧ wr = w
def flagB (b : Bool) : UInt8 := if b then 1 else 0
def putF (f : Fld) : List UInt8 :=
 if f.what = 0 then [f.x] else if f.what = 1 then enc (u64N f.n) 8 else if f.what = 2 then [flagB f.is] else if f.what = 3 ∨ f.what = 4 then enc f.b.length 4 ++ f.b else if f.what = 5 then f.t else []
theorem rIntB (n : Int) (w : World) : Calls Tryz.prog 57 #[.int .i64 n] w fun e w' => RetB 5 w (enc (u64N n) 8) e w' := by
 have h64 : IntKind.u64.wrap n = (u64N n : Int) := by rw [← u64N_eq]; simp only [IntKind.wrap_u64]
 have HL := qH (u64N_lt n)
 go_enter Tryz.func57, Tryz.ntmps57
 go_wp2_with fail
 refine (refPut (u64N n) 8 w HL.out (by decide)).mono ?_
 rintro e w1 h
 have H := qH h
 obtain ⟨A1, n1, c1, rfl, _, _⟩ := h
 go_wp2_with fail
 go_ret
 exact H.out
theorem rFlagB (b : Bool) (w : World) : Calls Tryz.prog 58 #[.bool b] w fun e w' => RetB 5 w [flagB b] e w' := by
 have h1 := fun (z : Int) => own_top (w := w) (B := w.heap.size) [.int .u8 z] 5 (Nat.le_refl _) (fun u hu => by simp at hu; subst hu; rfl) (by simp)
 have hb := fun (z : Int) => (Below.refl w.heap.size w).alloc (Nat.le_refl _) (.cells #[.int .u8 z] 5)
 have H1 := qH h1
 have HB := qH hb
 clear h1 hb
 go_enter Tryz.func58, Tryz.ntmps58
 cases b
 ·go_wp2
  go_ret
  exact ⟨_, _, _, rfl, H1.out 0, HB.out 0⟩
 ·go_wp2
  go_ret
  exact ⟨_, _, _, rfl, H1.out 1, HB.out 1⟩
theorem rTagB (t : List UInt8) (w : World) (hl : t.length = 32) : Calls Tryz.prog 59 #[.agg (arrB t)] w fun e w' => RetB 5 w t e w' := by
 have S1 := qH (tag_size hl)
 have B : Hid (Below w.heap.size w (w.alloc (.cells (arrB t) 32))) := (Below.refl _ _).alloc (Nat.le_refl _) _
 go_enter Tryz.func59, Tryz.ntmps59
 go_wp2_with (refine wpList_load_row rfl 32 _ rfl w.heap.size rfl 32 (arrB t) (0, 0) _ (heap_alloc_last w _) Tryz.underlying32 rfl S1.out ?_)
 refine (rTagBytes t _ hl).mono ?_
 rintro e w1 h
 have H := qH (RetB.from B.out h)
 obtain ⟨A1, n1, c1, rfl, _, _⟩ := h
 go_wp2_with fail
 go_ret
 exact H.out
structure FldAt (w : World) (g : Nat) (f : Fld) (A : Option Addr) (m c : Nat) : Prop where
 c0 : w.cell? ⟨g, 0, none⟩ = some (.int .i64 f.what)
 c1 : w.cell? ⟨g, 1, none⟩ = some (.int .u8 (f.x.toNat : Int))
 c2 : w.cell? ⟨g, 2, none⟩ = some (.int .i64 f.n)
 c3 : w.cell? ⟨g, 3, none⟩ = some (.bool f.is)
 c4 : w.cell? ⟨g, 4, none⟩ = some (.slice A m c)
 c5 : w.rangeAt g 5 (f.t.map bval)
 lt : g < w.heap.size
theorem FldAt.new (w : World) (f : Fld) (A : Option Addr) (m c : Nat) (T : TypeId) : FldAt (w.alloc (.cells (fldL f A m c).toArray T)) w.heap.size f A m c := by
 have h : ∀ j v, (fldL f A m c)[j]? = some v → (w.alloc (.cells (fldL f A m c).toArray T)).cell? ⟨w.heap.size, j, none⟩ = some v := fun j v hv => by
  rw [World.cell?_alloc_at _ _ _ _ (by rfl)]
  simpa using hv
 refine ⟨h 0 _ rfl, h 1 _ rfl, h 2 _ rfl, h 3 _ rfl, h 4 _ rfl, fun j v hv => ?_, by simp⟩
 refine h (5 + j) v ?_
 rw [Nat.add_comm]
 exact hv
theorem putF_len (f : Fld) (h : f.t.length = 32) : (putF f).length ≤ 40 + f.b.length := by
 unfold putF
 split
 ·simp; omega
 split
 ·rw [enc_len]; omega
 split
 ·simp; omega
 split
 ·rw [List.length_append, enc_len]; omega
 split
 ·omega
 ·simp
end
section
open Go.RowKit
def hexD (d : Nat) : UInt8 := if d < 10 then UInt8.ofNat (48 + d) else UInt8.ofNat (87 + d)
def hex2 (b : UInt8) : List UInt8 := [hexD (b.toNat / 16), hexD (b.toNat % 16)]
def hexL (bs : List UInt8) : List UInt8 := (bs.map hex2).flatten
def strB (l : List UInt8) : ByteArray := ⟨l.toArray⟩
theorem strB_size (l : List UInt8) : (strB l).size = l.length := by simp [strB, ByteArray.size]
theorem strB_add (a b : List UInt8) : strB a ++ strB b = strB (a ++ b) := by
 apply ByteArray.ext
 simp [strB, ByteArray.data_append]
theorem strB_nums (l : List UInt8) : strOfNums (numsOf l) = strB l := by
 apply ByteArray.ext
 apply Array.toList_inj.1
 rw [strOfNums_data]
 show List.map _ (List.map _ l) = l
 rw [List.map_map]
 have : ((fun n : Int => UInt8.ofNat n.toNat) ∘ fun b : UInt8 => (b.toNat : Int)) = id := by funext b; simp
 rw [this, List.map_id]
theorem convB (w : World) (y : UInt8) : (convert 35 9 (.slice (some ⟨w.heap.size, 0, none⟩) 1 1)).run Tryz.prog (w.alloc (.cells #[.int .u8 (y.toNat : Int)] 5)) = .ok (.string (strB [y])) (w.alloc (.cells #[.int .u8 (y.toNat : Int)] 5)) := by
 have r := Rd.lit (w := w) [y] [.int .u8 (y.toNat : Int)] 5 rfl
 have h := r.conv 1 35 5 9 Tryz.underlying35 Tryz.underlying5 Tryz.underlying9
 rw [strB_nums] at h
 exact h
theorem hexL_snoc {bs : List UInt8} {k : Nat} (h : k < bs.length) : hexL (bs.take (k + 1)) = hexL (bs.take k) ++ [hexD (nth bs k / 16)] ++ [hexD (nth bs k % 16)] := by
 rw [take_snoc_b h, nth_of_lt h]
 unfold hexL
 rw [List.map_append, List.flatten_append, List.append_assoc]
 rfl
theorem hexL_len (bs : List UInt8) : (hexL bs).length = 2 * bs.length := by
 induction bs with
 | nil => rfl
 | cons b bs ih => simp only [hexL, List.map_cons, List.flatten_cons, List.length_append, List.length_cons] at ih ⊢; rw [ih]; simp [hex2]; omega
theorem hexD_lo {d : Nat} (h : d < 10) : 48 + (d : Int) = ((hexD d).toNat : Int) := by
 unfold hexD
 rw [if_pos h, ← u8_mod]; omega
theorem hexD_hi {d : Nat} (h : ¬ d < 10) (h16 : d < 16) : 97 + (d : Int) - 10 = ((hexD d).toNat : Int) := by
 unfold hexD
 rw [if_neg h, ← u8_mod]; omega
def HexRel2 (w : World) (bs : List UInt8) (k : Nat) (s i : Value) (wr : World) : Prop :=
 ∃ j : Nat, j ≤ 2 ∧ i = .int .i64 (j : Int) ∧ s = .string (strB (hexL (bs.take k) ++ (hex2 (bs.getD k 0)).take j)) ∧ TagAt wr w.heap.size bs ∧ Below w.heap.size w wr
def HexRel (w : World) (bs : List UInt8) (s i : Value) (wr : World) : Prop :=
 ∃ k : Nat, k ≤ 32 ∧ i = .int .i64 (k : Int) ∧ s = .string (strB (hexL (bs.take k))) ∧ TagAt wr w.heap.size bs ∧ Below w.heap.size w wr
end
end Go.Proofs.YtffdjnhhmfpkgaaGreat