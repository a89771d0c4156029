/- The chapter's examples, as the laws begin with them (citadellaw04.awake): it returns true. -/
import Derived.Test.YtgkmkkfnpoapfaaDoorHmacW
import Derived.Lib.SlBytesConst
namespace Go.Proofs.YtgkmkkfnpoapfaaDoor
open Go.RowKit
set_option linter.unusedVariables false
set_option linter.unusedSimpArgs false

def hiThere : List UInt8 := [72, 105, 32, 84, 104, 101, 114, 101]
def jefe : List UInt8 := [74, 101, 102, 101]
def whatDo : List UInt8 := [119, 104, 97, 116, 32, 100, 111, 32, 121, 97, 32, 119, 97, 110, 116, 32, 102, 111, 114, 32, 110, 111, 116, 104, 105, 110, 103, 63]
def hiThereV : List Value := [.int .u8 72, .int .u8 105, .int .u8 32, .int .u8 84, .int .u8 104, .int .u8 101, .int .u8 114, .int .u8 101]
def jefeV : List Value := [.int .u8 74, .int .u8 101, .int .u8 102, .int .u8 101]
def whatDoV : List Value := [.int .u8 119, .int .u8 104, .int .u8 97, .int .u8 116, .int .u8 32, .int .u8 100, .int .u8 111, .int .u8 32, .int .u8 121, .int .u8 97, .int .u8 32, .int .u8 119, .int .u8 97, .int .u8 110, .int .u8 116, .int .u8 32, .int .u8 102, .int .u8 111, .int .u8 114, .int .u8 32, .int .u8 110, .int .u8 111, .int .u8 116, .int .u8 104, .int .u8 105, .int .u8 110, .int .u8 103, .int .u8 63]
def eleven : List UInt8 := List.replicate 20 11
theorem ex_hmac1 : hexL (hmacL eleven hiThere) = [98, 48, 51, 52, 52, 99, 54, 49, 100, 56, 100, 98, 51, 56, 53, 51, 53, 99, 97, 56, 97, 102, 99, 101, 97, 102, 48, 98, 102, 49, 50, 98, 56, 56, 49, 100, 99, 50, 48, 48, 99, 57, 56, 51, 51, 100, 97, 55, 50, 54, 101, 57, 51, 55, 54, 99, 50, 101, 51, 50, 99, 102, 102, 55] := by decide +kernel
theorem ex_hmac2 : hexL (hmacL jefe whatDo) = [53, 98, 100, 99, 99, 49, 52, 54, 98, 102, 54, 48, 55, 53, 52, 101, 54, 97, 48, 52, 50, 52, 50, 54, 48, 56, 57, 53, 55, 53, 99, 55, 53, 97, 48, 48, 51, 102, 48, 56, 57, 100, 50, 55, 51, 57, 56, 51, 57, 100, 101, 99, 53, 56, 98, 57, 54, 52, 101, 99, 51, 56, 52, 51] := by decide +kernel
theorem hex_1 : strB (hexL (hmacL eleven hiThere)) = ⟨#[98, 48, 51, 52, 52, 99, 54, 49, 100, 56, 100, 98, 51, 56, 53, 51, 53, 99, 97, 56, 97, 102, 99, 101, 97, 102, 48, 98, 102, 49, 50, 98, 56, 56, 49, 100, 99, 50, 48, 48, 99, 57, 56, 51, 51, 100, 97, 55, 50, 54, 101, 57, 51, 55, 54, 99, 50, 101, 51, 50, 99, 102, 102, 55]⟩ := by rw [ex_hmac1]; rfl
theorem hex_2 : strB (hexL (hmacL jefe whatDo)) = ⟨#[53, 98, 100, 99, 99, 49, 52, 54, 98, 102, 54, 48, 55, 53, 52, 101, 54, 97, 48, 52, 50, 52, 50, 54, 48, 56, 57, 53, 55, 53, 99, 55, 53, 97, 48, 48, 51, 102, 48, 56, 57, 100, 50, 55, 51, 57, 56, 51, 57, 100, 101, 99, 53, 56, 98, 57, 54, 52, 101, 99, 51, 56, 52, 51]⟩ := by rw [ex_hmac2]; rfl
/-- A row of constants, just laid, with a mark. -/
theorem rd_mark {w : World} (bs : List UInt8) (vs : List Value) (T : TypeId) (fr : Nat × Nat) (h : bs.map bval = vs) : Rd (w.alloc (.cells vs.toArray T fr)) (w.alloc (.cells vs.toArray T fr)).heap.size (some ⟨w.heap.size, 0, none⟩) vs.length bs := by
  subst h
  refine ⟨by simp, fun hn => ⟨w.heap.size, 0, rfl, by simp, fun j hj => ?_⟩⟩
  have hl : j < bs.length := by simpa using hj
  rw [World.cell?_alloc_mark, nth_of_lt hl]
  simp [hl, bval]
/-- A row of noughts, just made. -/
theorem rd_made {w : World} (n : Nat) (T : TypeId) : Rd (w.alloc (.cells (Array.replicate n (.int .u8 0)) T)) (w.alloc (.cells (Array.replicate n (.int .u8 0)) T)).heap.size (some ⟨w.heap.size, 0, none⟩) n (List.replicate n 0) := by
  refine ⟨by simp, fun hn => ⟨w.heap.size, 0, rfl, by simp, fun j hj => ?_⟩⟩
  rw [World.cell?_alloc_at _ _ _ _ (by rfl)]
  simp [nth, List.getD, hj]
theorem wpList_load_rowG {P : Program} {ops : Array Oper} {rest : List Oper} {o : Oper} {a : Act} {w : World} {Q : Exit → Act → World → Prop} (hw : Region.wanted o (yielded ops a.tmps) = true) (ty : TypeId) (x : Operand) (ho : o.op = .load ty x)
    (g : Nat) (hx : a.eval x = .pointer (some ⟨g, 0, none⟩)) (t : TypeId) (cs : Array Value) (fr : Nat × Nat) (d : TypeDesc) (hg : w.heap[g]? = some (.cells cs t fr))
    (hu : P.underlying ty = some d) (hd : (match d with | .struct _ | .array _ _ => true | _ => false) = true) (hi : (P.info? ty).map (·.size) = some cs.size)
    (h : wpList P ops Q rest (a.put o.dst (.agg cs)) w) : wpList P ops Q (o :: rest) a w :=
  wpList_step fun K hK => by rw [if_pos hw]; exact wp_load_row ty x ho g hx t cs fr d hg hu hd hi (hK _ _ h)

def AwFill (w : World) (i : Value) (wr : World) : Prop :=
  ∃ k : Nat, k ≤ 20 ∧ i = .int .i64 (k : Int) ∧ wr.ownsRow w.heap.size 5 1 (.slice (some ⟨w.heap.size, 0, none⟩) 20 20) 20 ((fillB eleven k).map bval) ∧ Below w.heap.size w wr

set_option maxRecDepth 1000000 in
set_option maxHeartbeats 1000000 in
theorem awake (w : World) (hp : Pr w) : Calls Tryd.prog 20 #[] w fun e w' => e = .returned (.bool true) ∧ Below w.heap.size w w' := by
  have HP := Lib.hid hp
  clear hp
  have hm20 : ∀ w, (Instr.makeSlice 22 (.int .i64 20) (.int .i64 20)).run Tryd.prog w = .ok (.slice (some ⟨w.heap.size, 0, none⟩) 20 20) (w.alloc (.cells (Array.replicate 20 (.int .u8 0)) 5)) := fun _ => by kernel_rfl
  have O0 : Hid ((w.alloc (.cells (Array.replicate 20 (.int .u8 0)) 5)).ownsRow w.heap.size 5 1 (.slice (some ⟨w.heap.size, 0, none⟩) 20 20) 20 ((fillB eleven 0).map bval)) := by
    have h := own_top (w := w) (B := w.heap.size) (List.replicate 20 (.int .u8 0)) 5 (Nat.le_refl _) (fun u hu => by obtain ⟨_, rfl⟩ := List.mem_replicate.1 hu; rfl) (by decide)
    exact h
  have B0 : Hid (Below w.heap.size w (w.alloc (.cells (Array.replicate 20 (.int .u8 0)) 5))) := (Below.refl _ _).alloc (Nat.le_refl _) _
  go_enter Tryd.func20, Tryd.ntmps20
  go_wp2_with fail
  generalize w.alloc (.cells (Array.replicate 20 (.int .u8 0)) 5) = w0 at *
  clear hm20
  go_loopw [2] (fun i wr => AwFill w i wr) (fun i _ => 20 - (intOf i).toNat)
  case atStart => exact ⟨0, by decide, rfl, O0.out, B0.out⟩
  case round =>
    clear O0 B0
    obtain ⟨k, hk, rfl, ho, hb⟩ := hrel
    have O := Lib.hid ho
    have B := Lib.hid hb
    have HK := Lib.hid hk
    clear ho hb hk
    by_cases h20 : (k : Int) < 20
    · obtain ⟨hcell, hfr⟩ := own_cell O.out (j := k) (by omega)
      have HS := Lib.hid (fillB_set (bs := eleven) (m := k) (by show k < 20; omega))
      have HE : Hid (eleven.getD k 0 = 11) := by
        show _ = _
        have : k < 20 := by omega
        simp only [eleven, List.getD, List.getElem?_replicate, if_pos this, Option.getD_some]
      rw [HE.out] at HS
      go_wp2_with fail
      go_roundw
      case rel =>
        have h := own_set O.out B.out (j := k) (11 : UInt8) (z := 11) rfl (Nat.le_refl _)
        rw [HS.out] at h
        exact ⟨k + 1, by omega, by go_num, h.1, h.2⟩
      case measure => simp [intOf]; omega
    · obtain rfl : k = 20 := by have := HK.out; omega
      have e20 : fillB eleven 20 = eleven := fillB_all eleven
      have K1 : Hid (Rd wr wr.heap.size (some ⟨w.heap.size, 0, none⟩) 20 eleven) := by
        have h := Rd.of_own O.out
        rw [e20] at h; exact h
      have P1 := Lib.hid (HP.out.to B.out)
      have hm31 : ∀ w, (Instr.makeSlice 22 (.int .i64 31) (.int .i64 31)).run Tryd.prog w = .ok (.slice (some ⟨w.heap.size, 0, none⟩) 31 31) (w.alloc (.cells (Array.replicate 31 (.int .u8 0)) 5)) := fun _ => by kernel_rfl
      have hm65 : ∀ w, (Instr.makeSlice 22 (.int .i64 65) (.int .i64 65)).run Tryd.prog w = .ok (.slice (some ⟨w.heap.size, 0, none⟩) 65 65) (w.alloc (.cells (Array.replicate 65 (.int .u8 0)) 5)) := fun _ => by kernel_rfl
      clear O e20 HP
      go_wp2_with fail
      have hba : Below wr.heap.size wr (wr.alloc (.cells (Array.replicate 31 (.int .u8 0)) 5)) := (Below.refl _ _).alloc (Nat.le_refl _) _
      have N1 := Lib.hid (rd_made (w := wr) 31 5)
      replace K1 := Lib.hid (K1.out.to hba)
      replace P1 := Lib.hid (P1.out.to hba)
      replace B := Lib.hid (B.out.trans (hba.mono B.out.size))
      clear hba
      refine (wOpen (some ⟨w.heap.size, 0, none⟩) (some ⟨wr.heap.size, 0, none⟩) 20 31 20 31 eleven (List.replicate 31 0) (wr.alloc (.cells (Array.replicate 31 (.int .u8 0)) 5)) P1.out K1.out N1.out (by decide) (by decide) (by decide) (by decide) (by decide) (by decide)).mono ?_
      generalize wr.alloc (.cells (Array.replicate 31 (.int .u8 0)) 5) = w1 at *
      rw [show openOk eleven (List.replicate 31 0) = false from rfl]
      rintro e w2 ⟨A2, n2, c2, rfl, _, _, _, hb⟩
      replace P1 := Lib.hid (P1.out.to hb)
      clear N1
      replace K1 := Lib.hid (K1.out.to hb)
      replace B := Lib.hid (B.out.trans (hb.mono B.out.size))
      clear hb
      have kc := fun (w : World) (C : Array Value) (n c : Nat) => Lib.run_convert_bytes_const (P := Tryd.prog) w 22 5 C n c Tryd.underlying22 Tryd.underlying5
      go_wp2_with fail
      have hba : Below w2.heap.size w2 (w2.alloc (.cells hiThereV.toArray 5 (8, 9))) := (Below.refl _ _).alloc (Nat.le_refl _) _
      have M1 := Lib.hid (rd_mark (w := w2) hiThere hiThereV 5 (8, 9) rfl)
      replace K1 := Lib.hid (K1.out.to hba)
      replace P1 := Lib.hid (P1.out.to hba)
      replace B := Lib.hid (B.out.trans (hba.mono B.out.size))
      clear hba
      refine (wHmac (some ⟨w.heap.size, 0, none⟩) (some ⟨w2.heap.size, 0, none⟩) 20 8 20 8 eleven hiThere (w2.alloc (.cells hiThereV.toArray 5 (8, 9))) P1.out K1.out M1.out (by decide) (by decide) (by decide) (by decide)).mono ?_
      generalize w2.alloc (.cells hiThereV.toArray 5 (8, 9)) = w3 at *
      rintro e w4 ⟨rfl, hb⟩
      replace P1 := Lib.hid (P1.out.to hb)
      clear M1 K1
      replace B := Lib.hid (B.out.trans (hb.mono B.out.size))
      clear hb
      go_wp2_with fail
      refine (wHex (hmacL eleven hiThere) w4 (hmacL_len _ _)).mono ?_
      rintro e w5 ⟨rfl, hb⟩
      replace P1 := Lib.hid (P1.out.to hb)
      replace B := Lib.hid (B.out.trans (hb.mono B.out.size))
      clear hb
      rw [hex_1]
      have hs5 : (w5.alloc (.cells jefeV.toArray 5 (4, 5))).heap.size = w5.heap.size + 1 := by simp
      have kc2 := kc (w5.alloc (.cells #[.int .u8 74, .int .u8 101, .int .u8 102, .int .u8 101] 5 (4, 5))) #[.int .u8 119, .int .u8 104, .int .u8 97, .int .u8 116, .int .u8 32, .int .u8 100, .int .u8 111, .int .u8 32, .int .u8 121, .int .u8 97, .int .u8 32, .int .u8 119, .int .u8 97, .int .u8 110, .int .u8 116, .int .u8 32, .int .u8 102, .int .u8 111, .int .u8 114, .int .u8 32, .int .u8 110, .int .u8 111, .int .u8 116, .int .u8 104, .int .u8 105, .int .u8 110, .int .u8 103, .int .u8 63] 28 28
      rw [show (w5.alloc (.cells #[.int .u8 74, .int .u8 101, .int .u8 102, .int .u8 101] 5 (4, 5))).heap.size = w5.heap.size + 1 from hs5] at kc2
      go_wp2_with fail
      clear kc2
      have hba : Below w5.heap.size w5 (w5.alloc (.cells jefeV.toArray 5 (4, 5))) := (Below.refl _ _).alloc (Nat.le_refl _) _
      have hbc : Below (w5.alloc (.cells jefeV.toArray 5 (4, 5))).heap.size (w5.alloc (.cells jefeV.toArray 5 (4, 5))) ((w5.alloc (.cells jefeV.toArray 5 (4, 5))).alloc (.cells whatDoV.toArray 5 (28, 29))) := (Below.refl _ _).alloc (Nat.le_refl _) _
      have M1 := Lib.hid ((rd_mark (w := w5) jefe jefeV 5 (4, 5) rfl).to hbc)
      have M2 := rd_mark (w := w5.alloc (.cells jefeV.toArray 5 (4, 5))) whatDo whatDoV 5 (28, 29) rfl
      have HS5 := Lib.hid hs5
      rw [hs5] at M2
      replace M2 := Lib.hid M2
      replace P1 := Lib.hid ((P1.out.to hba).to hbc)
      replace B := Lib.hid (B.out.trans (hba.mono B.out.size))
      replace B := Lib.hid (B.out.trans (hbc.mono B.out.size))
      clear hba hbc hs5
      refine (wHmac (some ⟨w5.heap.size, 0, none⟩) (some ⟨w5.heap.size + 1, 0, none⟩) 4 28 4 28 jefe whatDo ((w5.alloc (.cells jefeV.toArray 5 (4, 5))).alloc (.cells whatDoV.toArray 5 (28, 29))) P1.out M1.out M2.out (by decide) (by decide) (by decide) (by decide)).mono ?_
      generalize ((w5.alloc (.cells jefeV.toArray 5 (4, 5))).alloc (.cells whatDoV.toArray 5 (28, 29))) = w6 at *
      rintro e w7 ⟨rfl, hb⟩
      replace P1 := Lib.hid (P1.out.to hb)
      clear M1 M2 HS5
      replace B := Lib.hid (B.out.trans (hb.mono B.out.size))
      clear hb
      go_wp2_with fail
      refine (wHex (hmacL jefe whatDo) w7 (hmacL_len _ _)).mono ?_
      rintro e w8 ⟨rfl, hb⟩
      replace P1 := Lib.hid (P1.out.to hb)
      replace B := Lib.hid (B.out.trans (hb.mono B.out.size))
      clear hb
      rw [hex_2]
      go_wp2_with fail
      have hba : Below w8.heap.size w8 (w8.alloc (.cells (Array.replicate 65 (.int .u8 0)) 5)) := (Below.refl _ _).alloc (Nat.le_refl _) _
      have N1 := Lib.hid (rd_made (w := w8) 65 5)
      replace P1 := Lib.hid (P1.out.to hba)
      replace B := Lib.hid (B.out.trans (hba.mono B.out.size))
      clear hba
      have HSH : Hid ((shortL (List.replicate 65 0)).length = 32) := by
        show _ = _
        rw [shortL, if_neg (by simp), shaL_len]
      refine (wShort (some ⟨w8.heap.size, 0, none⟩) 65 65 (List.replicate 65 0) (w8.alloc (.cells (Array.replicate 65 (.int .u8 0)) 5)) P1.out N1.out (by decide) (by decide) (by decide)).mono ?_
      generalize w8.alloc (.cells (Array.replicate 65 (.int .u8 0)) 5) = w9 at *
      rintro e w10 ⟨A10, n10, c10, rfl, ho, _, _, hb⟩
      obtain rfl : n10 = 32 := ho.1.1.symm.trans HSH.out
      clear N1 P1 ho
      replace B := Lib.hid (B.out.trans (hb.mono B.out.size))
      clear hb
      go_wp2_with fail
      go_ret
      exact ⟨rfl, B.out⟩
end Go.Proofs.YtgkmkkfnpoapfaaDoor
