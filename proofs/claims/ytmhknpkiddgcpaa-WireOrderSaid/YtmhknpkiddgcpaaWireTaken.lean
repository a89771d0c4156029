/- The laws' own taken (citadellaw05): a field that was added is taken as it was. -/
import Derived.Test.YtmhknpkiddgcpaaWireForm
import Derived.Deep.RegionHeld
namespace Go.Proofs.Ytmhknpkiddgcpaa
open Go.RowKit
set_option linter.unusedVariables false
set_option linter.unusedSimpArgs false

theorem app_ok {b tl : List UInt8} {n : Nat} (h : b.length = n) : (⟨b ++ tl, 0⟩ : RS).ok n = true := by
  unfold RS.ok
  rw [decide_eq_true rfl, decide_eq_true (by rw [List.length_append]; omega)]; rfl
theorem app_next {b tl : List UInt8} {n : Nat} (h : b.length = n) : (⟨b ++ tl, 0⟩ : RS).next n = ⟨tl, 0⟩ := by
  unfold RS.next
  rw [if_pos (app_ok h)]
  simp only [RS.mk.injEq, and_true]
  exact List.drop_left' h
theorem app_got {b tl : List UInt8} {n : Nat} (h : b.length = n) : (⟨b ++ tl, 0⟩ : RS).got n = b := by
  unfold RS.got
  rw [if_pos (app_ok h)]
  exact List.take_left' h
theorem app_numb {b tl : List UInt8} {n : Nat} (h : b.length = n) : (⟨b ++ tl, 0⟩ : RS).numb n = numOf b := by
  unfold RS.numb
  rw [if_pos (app_ok h)]
  show numOf ((b ++ tl).take n) = _
  rw [List.take_left' h]
theorem numOf_one (x : UInt8) : numOf [x] = x.toNat := numOf_single x
theorem numOf_encS {y n : Nat} (hn : n = 4 ∨ n = 8) (hy : y < 256 ^ n) : numOf (enc y n) = y := by
  have h := num_enc y n
  rw [Nat.mod_eq_of_lt hy] at h
  unfold numOf
  rw [enc_len, h, if_neg (by omega)]
theorem wrap_u64I {n : Int} (h1 : -9223372036854775808 ≤ n) (h2 : n ≤ 9223372036854775807) : wrap64 (u64N n : Int) = n := by
  rw [← u64N_eq]
  unfold wrap64
  omega
theorem byteV_app (x : UInt8) (tl : List UInt8) : byteV ⟨[x] ++ tl, 0⟩ = x := by
  unfold byteV
  rw [app_numb (n := 1) rfl, numOf_one]
  exact UInt8.ofNat_toNat
theorem intV_app {n : Int} (h1 : -9223372036854775808 ≤ n) (h2 : n ≤ 9223372036854775807) (tl : List UInt8) : intV ⟨enc (u64N n) 8 ++ tl, 0⟩ = n := by
  unfold intV
  rw [app_numb (enc_len _ _), numOf_encS (.inr rfl) (u64N_lt n), wrap_u64I h1 h2]
theorem flag_app (b : Bool) (tl : List UInt8) : decide ((⟨[flagB b] ++ tl, 0⟩ : RS).numb 1 = 1) = b ∧ flagS ⟨[flagB b] ++ tl, 0⟩ = ⟨tl, 0⟩ := by
  have h : (⟨[flagB b] ++ tl, 0⟩ : RS).numb 1 = (flagB b).toNat := by rw [app_numb (n := 1) rfl, numOf_one]
  refine ⟨by rw [h]; cases b <;> rfl, ?_⟩
  unfold flagS
  rw [h, if_neg (by cases b <;> decide), app_next (n := 1) rfl]
theorem bytes_app {bs : List UInt8} (hb : bs.length ≤ 65536) (tl : List UInt8) : bytesV ⟨(enc bs.length 4 ++ bs) ++ tl, 0⟩ = bs ∧ bytesS ⟨(enc bs.length 4 ++ bs) ++ tl, 0⟩ = ⟨tl, 0⟩ := by
  rw [List.append_assoc]
  have h : (⟨enc bs.length 4 ++ (bs ++ tl), 0⟩ : RS).numb 4 = bs.length := by rw [app_numb (enc_len _ _), numOf_encS (.inl rfl) (by omega)]
  unfold bytesV bytesS
  rw [h, if_neg (by omega), if_neg (by omega), app_next (enc_len _ _), app_got rfl, app_next rfl]
  exact ⟨rfl, rfl⟩
theorem tag_app {t : List UInt8} (h : t.length = 32) (tl : List UInt8) : tagV ⟨t ++ tl, 0⟩ = t := by
  unfold tagV
  rw [if_pos (app_ok h)]
  exact List.take_left' h

set_option maxRecDepth 1000000 in
set_option maxHeartbeats 4000000 in
theorem rTaken (g : Nat) (F : Nat → Prop) (f : Fld) (A : Option Addr) (m c : Nat) (tl : List UInt8) (w : World) (h : PrAt w g F ⟨putF f ++ tl, 0⟩) (hf : FldOk w w.heap.size f A m c) (hm : m ≤ 65536) (hoff : Off A m F) :
    Calls Try.prog 36 #[.pointer (some ⟨g, 0, none⟩), .agg (fldL f A m c).toArray] w fun e w' => e = .returned (.bool true) ∧ PrTo w g F ⟨tl, 0⟩ w' := by
  have F0 := FldAt.new w f A m c 31
  have B : Hid (Below w.heap.size w (w.alloc (.cells (fldL f A m c).toArray 31))) := (Below.refl _ _).alloc (Nat.le_refl _) _
  have HW := Lib.hid (h.kept (R := fun _ => False) (Keep.of_below B.out) (fun _ _ h => h))
  have HFL : Hid (¬ F w.heap.size) := fun hf => absurd (h.lt _ hf) (Nat.lt_irrefl _)
  have HLT : Hid (w.heap.size < (w.alloc (.cells (fldL f A m c).toArray 31)).heap.size) := by (show _ < _); simp
  have HR := Lib.hid (hf.rd.to B.out)
  have HT := Lib.hid hf.tl
  have HM := Lib.hid hf.rd.1
  have HNN := Lib.hid hf.nn
  have HOFF := Lib.hid hoff
  have HP : Hid (putF f = if f.what = 0 then [f.x] else if f.what = 1 then enc (u64N f.n) 8 else if f.what = 2 then [flagB f.is] else if f.what = 3 ∨ f.what = 4 then enc f.b.length 4 ++ f.b else if f.what = 5 then f.t else []) := rfl
  obtain ⟨h0, h1, h2, h3, h4, h5, _⟩ := F0
  have C1 := Lib.hid h1; have C2 := Lib.hid h2; have C3 := Lib.hid h3; have C4 := Lib.hid h4; have C5 := Lib.hid h5
  clear hf h hoff h1 h2 h3 h4 h5
  go_enter Try.func36, Try.ntmps36
  generalize hwh : f.what = wh at *
  clear hwh
  by_cases c0 : wh = 0
  · subst c0
    have HE : Hid (putF f = [f.x]) := by (show _ = _); rw [HP.out, if_pos (by trivial)]
    rw [HE.out] at HW
    have HV : Hid (byteV ⟨[f.x] ++ tl, 0⟩ = f.x ∧ (⟨[f.x] ++ tl, 0⟩ : RS).next 1 = ⟨tl, 0⟩) := ⟨byteV_app _ _, app_next rfl⟩
    go_wp2_with fail
    clear h0
    generalize w.alloc (.cells (fldL f A m c).toArray 31) = w0 at *
    replace HW : Hid (PrAt w0.drew g F ⟨[f.x] ++ tl, 0⟩) := HW.out.kept (R := fun _ => False) (Keep.refl _ w0).drew (fun _ _ h => h)
    replace B := Lib.hid B.out.drew
    replace HLT : Hid (w.heap.size < w0.drew.heap.size) := HLT.out
    replace C1 : Hid (w0.drew.cell? ⟨w.heap.size, 1, none⟩ = some (.int .u8 (f.x.toNat : Int))) := C1.out
    generalize hwd : w0.drew = wd at *
    have HWD := Lib.hid hwd
    clear hwd
    refine wp_region_held_drew (S := (fun w' => w'.cell? ⟨w.heap.size, 1, none⟩ = some (.int .u8 (f.x.toNat : Int)))) (by kernel_rfl) ((by rw [HWD.out]; exact C1.out)) (fun hHeld => ?_)
    rw [HWD.out] at hHeld ⊢
    refine wpAnyH_take (i := 0) (v := ?_) rfl (by kernel_rfl) (by kernel_rfl) (by kernel_rfl) (fun _ _ _ h => h) (Or.inl ⟨by rfl, ?_⟩) (by assumption) ?_
    rotate_left 1
    · intro w hSw; (try dsimp only at hSw); go_simp; (try with_reducible rfl)
    simp only [Act.put, List.getElem_toArray, List.getElem_cons_zero, List.getElem_cons_succ, List.setIfInBounds_toArray, List.set_cons_zero, List.set_cons_succ]
    refine wpAnyH_take (i := 2) (v := ?_) rfl (by kernel_rfl) (by kernel_rfl) (by kernel_rfl) (fun _ _ _ h => h) (Or.inl ⟨by rfl, ?_⟩) (by assumption) ?_
    rotate_left 1
    · intro w hSw; (try dsimp only at hSw); go_simp; (try with_reducible rfl)
    simp only [Act.put, List.getElem_toArray, List.getElem_cons_zero, List.getElem_cons_succ, List.setIfInBounds_toArray, List.set_cons_zero, List.set_cons_succ]
    refine wpAnyH_take (i := 3) (v := ?_) rfl (by kernel_rfl) (by kernel_rfl) (by kernel_rfl) (fun _ _ _ h => h) (Or.inl ⟨by rfl, ?_⟩) (by assumption) ?_
    rotate_left 1
    · intro w hSw; (try dsimp only at hSw); go_simp; (try with_reducible rfl)
    simp only [Act.put, List.getElem_toArray, List.getElem_cons_zero, List.getElem_cons_succ, List.setIfInBounds_toArray, List.set_cons_zero, List.set_cons_succ]
    refine wpAnyH_ready (rs := [1]) (by kernel_rfl) (by simp) ?_
    refine AllReadyH.cons rfl (fun K hK => ?_) AllReadyH.nil
    go_simp
    refine (pByte g F _ wd HW.out).mono ?_
    rw [HV.out.1, HV.out.2]
    rintro e w1 ⟨rfl, hp⟩
    have H := Lib.hid hp
    clear hp
    go_wp2_with fail
    refine hK.out _ _ (((H.out.cell HLT.out HFL.out).trans C1.out)) (fun hHeld => ?_)
    clear hK K
    refine wpAnyH_take (i := 4) (v := ?_) rfl (by kernel_rfl) (by kernel_rfl) (by kernel_rfl) (fun _ _ _ h => h) (Or.inl ⟨by rfl, ?_⟩) (by assumption) ?_
    rotate_left 1
    · intro w hSw; (try dsimp only at hSw); go_simp; (try with_reducible rfl)
    simp only [Act.put, List.getElem_toArray, List.getElem_cons_zero, List.getElem_cons_succ, List.setIfInBounds_toArray, List.set_cons_zero, List.set_cons_succ]
    refine wpAnyH_take (i := 5) (v := ?_) rfl (by kernel_rfl) (by kernel_rfl) (by kernel_rfl) (fun _ _ _ h => h) (Or.inl ⟨by rfl, ?_⟩) (by assumption) ?_
    rotate_left 1
    · intro w hSw; (try dsimp only at hSw); go_simp; (try with_reducible rfl)
    simp only [Act.put, List.getElem_toArray, List.getElem_cons_zero, List.getElem_cons_succ, List.setIfInBounds_toArray, List.set_cons_zero, List.set_cons_succ]
    refine wpAnyH_done (by kernel_rfl) ?_ _
    go_wp2_with fail
    go_ret
    exact ⟨rfl, H.out.after B.out⟩
  by_cases c1 : wh = 1
  · subst c1
    have HE : Hid (putF f = enc (u64N f.n) 8) := by (show _ = _); rw [HP.out, if_neg (by decide), if_pos (by trivial)]
    rw [HE.out] at HW
    have HV : Hid (intV ⟨enc (u64N f.n) 8 ++ tl, 0⟩ = f.n ∧ (⟨enc (u64N f.n) 8 ++ tl, 0⟩ : RS).next 8 = ⟨tl, 0⟩) := ⟨intV_app HNN.out.1 HNN.out.2 _, app_next (enc_len _ _)⟩
    go_wp2_with fail
    clear h0
    generalize w.alloc (.cells (fldL f A m c).toArray 31) = w0 at *
    replace HW : Hid (PrAt w0.drew g F ⟨enc (u64N f.n) 8 ++ tl, 0⟩) := HW.out.kept (R := fun _ => False) (Keep.refl _ w0).drew (fun _ _ h => h)
    replace B := Lib.hid B.out.drew
    replace HLT : Hid (w.heap.size < w0.drew.heap.size) := HLT.out
    replace C2 : Hid (w0.drew.cell? ⟨w.heap.size, 2, none⟩ = some (.int .i64 f.n)) := C2.out
    generalize hwd : w0.drew = wd at *
    have HWD := Lib.hid hwd
    clear hwd
    refine wp_region_held_drew (S := (fun w' => w'.cell? ⟨w.heap.size, 2, none⟩ = some (.int .i64 f.n))) (by kernel_rfl) ((by rw [HWD.out]; exact C2.out)) (fun hHeld => ?_)
    rw [HWD.out] at hHeld ⊢
    refine wpAnyH_take (i := 0) (v := ?_) rfl (by kernel_rfl) (by kernel_rfl) (by kernel_rfl) (fun _ _ _ h => h) (Or.inl ⟨by rfl, ?_⟩) (by assumption) ?_
    rotate_left 1
    · intro w hSw; (try dsimp only at hSw); go_simp; (try with_reducible rfl)
    simp only [Act.put, List.getElem_toArray, List.getElem_cons_zero, List.getElem_cons_succ, List.setIfInBounds_toArray, List.set_cons_zero, List.set_cons_succ]
    refine wpAnyH_take (i := 2) (v := ?_) rfl (by kernel_rfl) (by kernel_rfl) (by kernel_rfl) (fun _ _ _ h => h) (Or.inl ⟨by rfl, ?_⟩) (by assumption) ?_
    rotate_left 1
    · intro w hSw; (try dsimp only at hSw); go_simp; (try with_reducible rfl)
    simp only [Act.put, List.getElem_toArray, List.getElem_cons_zero, List.getElem_cons_succ, List.setIfInBounds_toArray, List.set_cons_zero, List.set_cons_succ]
    refine wpAnyH_take (i := 3) (v := ?_) rfl (by kernel_rfl) (by kernel_rfl) (by kernel_rfl) (fun _ _ _ h => h) (Or.inl ⟨by rfl, ?_⟩) (by assumption) ?_
    rotate_left 1
    · intro w hSw; (try dsimp only at hSw); go_simp; (try with_reducible rfl)
    simp only [Act.put, List.getElem_toArray, List.getElem_cons_zero, List.getElem_cons_succ, List.setIfInBounds_toArray, List.set_cons_zero, List.set_cons_succ]
    refine wpAnyH_ready (rs := [1]) (by kernel_rfl) (by simp) ?_
    refine AllReadyH.cons rfl (fun K hK => ?_) AllReadyH.nil
    go_simp
    refine (pInt g F _ wd HW.out).mono ?_
    rw [HV.out.1, HV.out.2]
    rintro e w1 ⟨rfl, hp⟩
    have H := Lib.hid hp
    clear hp
    go_wp2_with fail
    refine hK.out _ _ (((H.out.cell HLT.out HFL.out).trans C2.out)) (fun hHeld => ?_)
    clear hK K
    refine wpAnyH_take (i := 4) (v := ?_) rfl (by kernel_rfl) (by kernel_rfl) (by kernel_rfl) (fun _ _ _ h => h) (Or.inl ⟨by rfl, ?_⟩) (by assumption) ?_
    rotate_left 1
    · intro w hSw; (try dsimp only at hSw); go_simp; (try with_reducible rfl)
    simp only [Act.put, List.getElem_toArray, List.getElem_cons_zero, List.getElem_cons_succ, List.setIfInBounds_toArray, List.set_cons_zero, List.set_cons_succ]
    refine wpAnyH_take (i := 5) (v := ?_) rfl (by kernel_rfl) (by kernel_rfl) (by kernel_rfl) (fun _ _ _ h => h) (Or.inl ⟨by rfl, ?_⟩) (by assumption) ?_
    rotate_left 1
    · intro w hSw; (try dsimp only at hSw); go_simp; (try with_reducible rfl)
    simp only [Act.put, List.getElem_toArray, List.getElem_cons_zero, List.getElem_cons_succ, List.setIfInBounds_toArray, List.set_cons_zero, List.set_cons_succ]
    refine wpAnyH_done (by kernel_rfl) ?_ _
    go_wp2_with fail
    go_ret
    exact ⟨rfl, H.out.after B.out⟩
  by_cases c2 : wh = 2
  · subst c2
    have HE : Hid (putF f = [flagB f.is]) := by (show _ = _); rw [HP.out, if_neg (by decide), if_neg (by decide), if_pos (by trivial)]
    rw [HE.out] at HW
    have HV := Lib.hid (flag_app f.is tl)
    go_wp2_with fail
    clear h0
    generalize w.alloc (.cells (fldL f A m c).toArray 31) = w0 at *
    replace HW : Hid (PrAt w0.drew g F ⟨[flagB f.is] ++ tl, 0⟩) := HW.out.kept (R := fun _ => False) (Keep.refl _ w0).drew (fun _ _ h => h)
    replace B := Lib.hid B.out.drew
    replace HLT : Hid (w.heap.size < w0.drew.heap.size) := HLT.out
    replace C3 : Hid (w0.drew.cell? ⟨w.heap.size, 3, none⟩ = some (.bool f.is)) := C3.out
    generalize hwd : w0.drew = wd at *
    have HWD := Lib.hid hwd
    clear hwd
    refine wp_region_held_drew (S := (fun w' => w'.cell? ⟨w.heap.size, 3, none⟩ = some (.bool f.is))) (by kernel_rfl) ((by rw [HWD.out]; exact C3.out)) (fun hHeld => ?_)
    rw [HWD.out] at hHeld ⊢
    refine wpAnyH_take (i := 0) (v := ?_) rfl (by kernel_rfl) (by kernel_rfl) (by kernel_rfl) (fun _ _ _ h => h) (Or.inl ⟨by rfl, ?_⟩) (by assumption) ?_
    rotate_left 1
    · intro w hSw; (try dsimp only at hSw); go_simp; (try with_reducible rfl)
    simp only [Act.put, List.getElem_toArray, List.getElem_cons_zero, List.getElem_cons_succ, List.setIfInBounds_toArray, List.set_cons_zero, List.set_cons_succ]
    refine wpAnyH_take (i := 2) (v := ?_) rfl (by kernel_rfl) (by kernel_rfl) (by kernel_rfl) (fun _ _ _ h => h) (Or.inl ⟨by rfl, ?_⟩) (by assumption) ?_
    rotate_left 1
    · intro w hSw; (try dsimp only at hSw); go_simp; (try with_reducible rfl)
    simp only [Act.put, List.getElem_toArray, List.getElem_cons_zero, List.getElem_cons_succ, List.setIfInBounds_toArray, List.set_cons_zero, List.set_cons_succ]
    refine wpAnyH_take (i := 3) (v := ?_) rfl (by kernel_rfl) (by kernel_rfl) (by kernel_rfl) (fun _ _ _ h => h) (Or.inl ⟨by rfl, ?_⟩) (by assumption) ?_
    rotate_left 1
    · intro w hSw; (try dsimp only at hSw); go_simp; (try with_reducible rfl)
    simp only [Act.put, List.getElem_toArray, List.getElem_cons_zero, List.getElem_cons_succ, List.setIfInBounds_toArray, List.set_cons_zero, List.set_cons_succ]
    refine wpAnyH_ready (rs := [1]) (by kernel_rfl) (by simp) ?_
    refine AllReadyH.cons rfl (fun K hK => ?_) AllReadyH.nil
    go_simp
    refine (pFlag g F _ wd HW.out).mono ?_
    rw [HV.out.1, HV.out.2]
    rintro e w1 ⟨rfl, hp⟩
    have H := Lib.hid hp
    clear hp
    go_wp2_with fail
    refine hK.out _ _ (((H.out.cell HLT.out HFL.out).trans C3.out)) (fun hHeld => ?_)
    clear hK K
    refine wpAnyH_take (i := 4) (v := ?_) rfl (by kernel_rfl) (by kernel_rfl) (by kernel_rfl) (fun _ _ _ h => h) (Or.inl ⟨by rfl, ?_⟩) (by assumption) ?_
    rotate_left 1
    · intro w hSw; (try dsimp only at hSw); go_simp; (try with_reducible rfl)
    simp only [Act.put, List.getElem_toArray, List.getElem_cons_zero, List.getElem_cons_succ, List.setIfInBounds_toArray, List.set_cons_zero, List.set_cons_succ]
    refine wpAnyH_take (i := 5) (v := ?_) rfl (by kernel_rfl) (by kernel_rfl) (by kernel_rfl) (fun _ _ _ h => h) (Or.inl ⟨by rfl, ?_⟩) (by assumption) ?_
    rotate_left 1
    · intro w hSw; (try dsimp only at hSw); go_simp; (try with_reducible rfl)
    simp only [Act.put, List.getElem_toArray, List.getElem_cons_zero, List.getElem_cons_succ, List.setIfInBounds_toArray, List.set_cons_zero, List.set_cons_succ]
    refine wpAnyH_done (by kernel_rfl) ?_ _
    go_wp2_with fail
    go_ret
    exact ⟨rfl, H.out.after B.out⟩
  have HB34 : Hid (wh = 3 ∨ wh = 4 → putF f = enc f.b.length 4 ++ f.b) := fun h => by rw [HP.out, if_neg c0, if_neg c1, if_neg c2, if_pos h]
  have HBA := Lib.hid (bytes_app (bs := f.b) (by rw [HM.out]; exact hm) tl)
  by_cases c3 : wh = 3
  · have HE := HB34.out (.inl c3)
    subst c3
    rw [HE] at HW
    clear HE
    go_wp2_with fail
    clear h0
    generalize w.alloc (.cells (fldL f A m c).toArray 31) = w0 at *
    replace HW : Hid (PrAt w0.drew g F ⟨(enc f.b.length 4 ++ f.b) ++ tl, 0⟩) := HW.out.kept (R := fun _ => False) (Keep.refl _ w0).drew (fun _ _ h => h)
    replace B := Lib.hid B.out.drew
    replace HLT : Hid (w.heap.size < w0.drew.heap.size) := HLT.out
    replace C4 : Hid (w0.drew.cell? ⟨w.heap.size, 4, none⟩ = some (.slice A m c)) := C4.out
    replace HR := Lib.hid HR.out.drew'
    generalize hwd : w0.drew = wd at *
    have HWD := Lib.hid hwd
    clear hwd
    refine wp_region_held_drew (S := (fun w' => w'.cell? ⟨w.heap.size, 4, none⟩ = some (.slice A m c))) (by kernel_rfl) ((by rw [HWD.out]; exact C4.out)) (fun hHeld => ?_)
    rw [HWD.out] at hHeld ⊢
    refine wpAnyH_take (i := 0) (v := ?_) rfl (by kernel_rfl) (by kernel_rfl) (by kernel_rfl) (fun _ _ _ h => h) (Or.inl ⟨by rfl, ?_⟩) (by assumption) ?_
    rotate_left 1
    · intro w hSw; (try dsimp only at hSw); go_simp; (try with_reducible rfl)
    simp only [Act.put, List.getElem_toArray, List.getElem_cons_zero, List.getElem_cons_succ, List.setIfInBounds_toArray, List.set_cons_zero, List.set_cons_succ]
    refine wpAnyH_take (i := 2) (v := ?_) rfl (by kernel_rfl) (by kernel_rfl) (by kernel_rfl) (fun _ _ _ h => h) (Or.inl ⟨by rfl, ?_⟩) (by assumption) ?_
    rotate_left 1
    · intro w hSw; (try dsimp only at hSw); go_simp; (try with_reducible rfl)
    simp only [Act.put, List.getElem_toArray, List.getElem_cons_zero, List.getElem_cons_succ, List.setIfInBounds_toArray, List.set_cons_zero, List.set_cons_succ]
    refine wpAnyH_take (i := 3) (v := ?_) rfl (by kernel_rfl) (by kernel_rfl) (by kernel_rfl) (fun _ _ _ h => h) (Or.inl ⟨by rfl, ?_⟩) (by assumption) ?_
    rotate_left 1
    · intro w hSw; (try dsimp only at hSw); go_simp; (try with_reducible rfl)
    simp only [Act.put, List.getElem_toArray, List.getElem_cons_zero, List.getElem_cons_succ, List.setIfInBounds_toArray, List.set_cons_zero, List.set_cons_succ]
    refine wpAnyH_ready (rs := [1]) (by kernel_rfl) (by simp) ?_
    refine AllReadyH.cons rfl (fun K hK => ?_) AllReadyH.nil
    go_simp
    refine (pBytes g F _ wd HW.out).mono ?_
    rw [HBA.out.1, HBA.out.2]
    rintro e w1 ⟨A1, n1, k1, F', rfl, ho, _, _, hp, _, hs, hk⟩
    have H : Hid (PrTo wd g F ⟨tl, 0⟩ w1) := ⟨F', hp, hs, hk⟩
    have O := Lib.hid ho.1
    have R1 := Lib.hid (HR.out.kept hk HOFF.out)
    clear hp hs hk ho
    go_wp2_with fail
    refine hK.out _ _ (((H.out.cell HLT.out HFL.out).trans C4.out)) (fun hHeld => ?_)
    clear hK K
    refine wpAnyH_ready (rs := [4]) (by kernel_rfl) (by simp) ?_
    refine AllReadyH.cons rfl (fun K hK => ?_) AllReadyH.nil
    go_simp
    refine (wSame A1 A n1 m k1 c _ f.b f.b w1 O.out R1.out).mono ?_
    rw [show decide (f.b = f.b) = true from decide_eq_true rfl]
    rintro e w' ⟨rfl, rfl⟩
    go_wp2_with fail
    refine hK.out _ _ (((H.out.cell HLT.out HFL.out).trans C4.out)) (fun hHeld => ?_)
    clear hK K
    refine wpAnyH_take (i := 5) (v := ?_) rfl (by kernel_rfl) (by kernel_rfl) (by kernel_rfl) (fun _ _ _ h => h) (Or.inl ⟨by rfl, ?_⟩) (by assumption) ?_
    rotate_left 1
    · intro w hSw; (try dsimp only at hSw); go_simp; (try with_reducible rfl)
    simp only [Act.put, List.getElem_toArray, List.getElem_cons_zero, List.getElem_cons_succ, List.setIfInBounds_toArray, List.set_cons_zero, List.set_cons_succ]
    refine wpAnyH_done (by kernel_rfl) ?_ _
    go_wp2_with fail
    go_ret
    exact ⟨rfl, H.out.after B.out⟩
  by_cases c4 : wh = 4
  · have HE := HB34.out (.inr c4)
    subst c4
    rw [HE] at HW
    clear HE
    go_wp2_with fail
    clear h0
    generalize w.alloc (.cells (fldL f A m c).toArray 31) = w0 at *
    replace HW : Hid (PrAt w0.drew g F ⟨(enc f.b.length 4 ++ f.b) ++ tl, 0⟩) := HW.out.kept (R := fun _ => False) (Keep.refl _ w0).drew (fun _ _ h => h)
    replace B := Lib.hid B.out.drew
    replace HLT : Hid (w.heap.size < w0.drew.heap.size) := HLT.out
    replace C4 : Hid (w0.drew.cell? ⟨w.heap.size, 4, none⟩ = some (.slice A m c)) := C4.out
    replace HR := Lib.hid HR.out.drew'
    generalize hwd : w0.drew = wd at *
    have HWD := Lib.hid hwd
    clear hwd
    refine wp_region_held_drew (S := (fun w' => w'.cell? ⟨w.heap.size, 4, none⟩ = some (.slice A m c) ∧ Rd w' w'.heap.size A m f.b)) (by kernel_rfl) ((by rw [HWD.out]; exact ⟨C4.out, HR.out⟩)) (fun hHeld => ?_)
    rw [HWD.out] at hHeld ⊢
    refine wpAnyH_take (i := 0) (v := ?_) rfl (by kernel_rfl) (by kernel_rfl) (by kernel_rfl) (fun _ _ _ h => h) (Or.inl ⟨by rfl, ?_⟩) (by assumption) ?_
    rotate_left 1
    · intro w hSw; (try dsimp only at hSw); go_simp; (try with_reducible rfl)
    simp only [Act.put, List.getElem_toArray, List.getElem_cons_zero, List.getElem_cons_succ, List.setIfInBounds_toArray, List.set_cons_zero, List.set_cons_succ]
    refine wpAnyH_take (i := 2) (v := ?_) rfl (by kernel_rfl) (by kernel_rfl) (by kernel_rfl) (fun _ _ _ h => h) (Or.inl ⟨by rfl, ?_⟩) (by assumption) ?_
    rotate_left 1
    · intro w hSw; (try dsimp only at hSw); go_simp; (try with_reducible rfl)
    simp only [Act.put, List.getElem_toArray, List.getElem_cons_zero, List.getElem_cons_succ, List.setIfInBounds_toArray, List.set_cons_zero, List.set_cons_succ]
    refine wpAnyH_take (i := 3) (v := ?_) rfl (by kernel_rfl) (by kernel_rfl) (by kernel_rfl) (fun _ _ _ h => h) (Or.inl ⟨by rfl, ?_⟩) (by assumption) ?_
    rotate_left 1
    · intro w hSw; (try dsimp only at hSw); go_simp; (try with_reducible rfl)
    simp only [Act.put, List.getElem_toArray, List.getElem_cons_zero, List.getElem_cons_succ, List.setIfInBounds_toArray, List.set_cons_zero, List.set_cons_succ]
    refine wpAnyH_take (i := 4) (v := ?_) rfl (by kernel_rfl) (by kernel_rfl) (by kernel_rfl) (fun _ _ _ h => h) (Or.inl ⟨by rfl, ?_⟩) (by assumption) ?_
    rotate_left 1
    · intro w hSw; (try dsimp only at hSw); have hcv := hSw.2.bytesIn.convert (by simp [numsOf, HM.out]) c 26 5 9 Try.underlying26 Try.underlying5 Try.underlying9; rw [strB_nums] at hcv; go_simp; (try with_reducible rfl)
    simp only [Act.put, List.getElem_toArray, List.getElem_cons_zero, List.getElem_cons_succ, List.setIfInBounds_toArray, List.set_cons_zero, List.set_cons_succ]
    refine wpAnyH_ready (rs := [1]) (by kernel_rfl) (by simp) ?_
    refine AllReadyH.cons rfl (fun K hK => ?_) AllReadyH.nil
    go_simp
    refine (pText g F _ wd HW.out).mono ?_
    rw [HBA.out.1, HBA.out.2]
    rintro e w1 ⟨rfl, F', hp, hs, hk⟩
    have H : Hid (PrTo wd g F ⟨tl, 0⟩ w1) := ⟨F', hp, hs, hk⟩
    have R1 := Lib.hid (HR.out.kept hk HOFF.out)
    clear hp hs hk
    go_wp2_with fail
    refine hK.out _ _ (⟨(H.out.cell HLT.out HFL.out).trans C4.out, R1.out⟩) (fun hHeld => ?_)
    clear hK K
    refine wpAnyH_take (i := 5) (v := ?_) rfl (by kernel_rfl) (by kernel_rfl) (by kernel_rfl) (fun _ _ _ h => h) (Or.inl ⟨by rfl, ?_⟩) (by assumption) ?_
    rotate_left 1
    · intro w hSw; (try dsimp only at hSw); go_simp; (try with_reducible rfl)
    simp only [Act.put, List.getElem_toArray, List.getElem_cons_zero, List.getElem_cons_succ, List.setIfInBounds_toArray, List.set_cons_zero, List.set_cons_succ]
    refine wpAnyH_take (i := 6) (v := ?_) rfl (by kernel_rfl) (by kernel_rfl) (by kernel_rfl) (fun _ _ _ h => h) (Or.inl ⟨by rfl, ?_⟩) (by assumption) ?_
    rotate_left 1
    · intro w hSw; (try dsimp only at hSw); go_simp; (try with_reducible rfl)
    simp only [Act.put, List.getElem_toArray, List.getElem_cons_zero, List.getElem_cons_succ, List.setIfInBounds_toArray, List.set_cons_zero, List.set_cons_succ]
    refine wpAnyH_done (by kernel_rfl) ?_ _
    go_wp2_with fail
    go_ret
    exact ⟨rfl, H.out.after B.out⟩
  by_cases c5 : wh = 5
  · subst c5
    have HE : Hid (putF f = f.t) := by (show _ = _); rw [HP.out, if_neg (by decide), if_neg (by decide), if_neg (by decide), if_neg (by decide), if_pos (by trivial)]
    rw [HE.out] at HW
    have HV : Hid (tagV ⟨f.t ++ tl, 0⟩ = f.t ∧ (⟨f.t ++ tl, 0⟩ : RS).next 32 = ⟨tl, 0⟩) := ⟨tag_app HT.out _, app_next HT.out⟩
    have hcl := HT.out
    have heq : ∀ w', (Op.equalIn 10000 29 (.agg (arrB f.t)) (.agg (f.t.map bval).toArray)).run Try.prog w' = .ok (decide (f.t = f.t)) w' := fun w' => run_eql_arrB (P := Try.prog) Try.underlying29 Try.underlying5 (sizeOf_one (by kernel_rfl)) f.t f.t hcl hcl w'
    have hu := Try.underlying29
    have hi : (Try.prog.info? 29).map (·.size) = some (f.t.map bval).length := by rw [List.length_map, hcl]; exact (zero_of_info tag_info).2
    have hgd : Try.prog.eqGuardType Try.prog.depth 29 = false := by kernel_rfl
    rw [show decide (f.t = f.t) = true from decide_eq_true rfl] at heq
    go_wp2_with fail
    clear h0
    generalize w.alloc (.cells (fldL f A m c).toArray 31) = w0 at *
    replace HW : Hid (PrAt w0.drew g F ⟨f.t ++ tl, 0⟩) := HW.out.kept (R := fun _ => False) (Keep.refl _ w0).drew (fun _ _ h => h)
    replace B := Lib.hid B.out.drew
    replace HLT : Hid (w.heap.size < w0.drew.heap.size) := HLT.out
    replace C5 : Hid (w0.drew.rangeAt w.heap.size 5 (f.t.map bval)) := C5.out
    generalize hwd : w0.drew = wd at *
    have HWD := Lib.hid hwd
    clear hwd
    refine wp_region_held_drew (S := (fun w' => w'.rangeAt w.heap.size 5 (f.t.map bval))) (by kernel_rfl) ((by rw [HWD.out]; exact C5.out)) (fun hHeld => ?_)
    rw [HWD.out] at hHeld ⊢
    refine wpAnyH_take (i := 0) (v := ?_) rfl (by kernel_rfl) (by kernel_rfl) (by kernel_rfl) (fun _ _ _ h => h) (Or.inl ⟨by rfl, ?_⟩) (by assumption) ?_
    rotate_left 1
    · intro w hSw; (try dsimp only at hSw); go_simp; (try with_reducible rfl)
    simp only [Act.put, List.getElem_toArray, List.getElem_cons_zero, List.getElem_cons_succ, List.setIfInBounds_toArray, List.set_cons_zero, List.set_cons_succ]
    refine wpAnyH_take (i := 2) (v := ?_) rfl (by kernel_rfl) (by kernel_rfl) (by kernel_rfl) (fun _ _ _ h => h) (Or.inl ⟨by rfl, ?_⟩) (by assumption) ?_
    rotate_left 1
    · intro w hSw; (try dsimp only at hSw); go_simp; (try with_reducible rfl)
    simp only [Act.put, List.getElem_toArray, List.getElem_cons_zero, List.getElem_cons_succ, List.setIfInBounds_toArray, List.set_cons_zero, List.set_cons_succ]
    refine wpAnyH_take (i := 3) (v := .agg (List.toArray (f.t.map bval))) rfl (by kernel_rfl) (by kernel_rfl) (by kernel_rfl) (fun _ _ _ h => h) (yieldsIf_load_mid (by rfl) 29 _ rfl w.heap.size 5 rfl (f.t.map bval) _ (fun _ h => h) hu rfl hi) (by assumption) ?_
    simp only [Act.put, List.getElem_toArray, List.getElem_cons_zero, List.getElem_cons_succ, List.setIfInBounds_toArray, List.set_cons_zero, List.set_cons_succ]
    refine wpAnyH_ready (rs := [1]) (by kernel_rfl) (by simp) ?_
    refine AllReadyH.cons rfl (fun K hK => ?_) AllReadyH.nil
    go_simp
    refine (pTag g F _ wd HW.out).mono ?_
    rw [HV.out.1, HV.out.2]
    rintro e w1 ⟨rfl, hp⟩
    have H := Lib.hid hp
    clear hp
    go_wp2_with fail
    refine hK.out _ _ ((fun j v hv => (H.out.cell (a := ⟨w.heap.size, 5 + j, none⟩) HLT.out HFL.out).trans (C5.out j v hv))) (fun hHeld => ?_)
    clear hK K
    refine wpAnyH_take (i := 4) (v := ?_) rfl (by kernel_rfl) (by kernel_rfl) (by kernel_rfl) (fun _ _ _ h => h) (Or.inl ⟨by rfl, ?_⟩) (by assumption) ?_
    rotate_left 1
    · intro w hSw; (try dsimp only at hSw); go_simp; (try with_reducible rfl)
    simp only [Act.put, List.getElem_toArray, List.getElem_cons_zero, List.getElem_cons_succ, List.setIfInBounds_toArray, List.set_cons_zero, List.set_cons_succ]
    refine wpAnyH_take (i := 5) (v := ?_) rfl (by kernel_rfl) (by kernel_rfl) (by kernel_rfl) (fun _ _ _ h => h) (Or.inl ⟨by rfl, ?_⟩) (by assumption) ?_
    rotate_left 1
    · intro w hSw; (try dsimp only at hSw); go_simp; (try with_reducible rfl)
    simp only [Act.put, List.getElem_toArray, List.getElem_cons_zero, List.getElem_cons_succ, List.setIfInBounds_toArray, List.set_cons_zero, List.set_cons_succ]
    refine wpAnyH_done (by kernel_rfl) ?_ _
    go_wp2_with fail
    go_ret
    exact ⟨rfl, H.out.after B.out⟩
  have HE : Hid (putF f = []) := by (show _ = _); rw [HP.out, if_neg c0, if_neg c1, if_neg c2, if_neg (by omega), if_neg c5]
  rw [HE.out] at HW
  go_wp2_with fail
  go_ret
  exact ⟨rfl, F, HW.out, fun k h => .inl h, Keep.of_below B.out⟩
end Go.Proofs.Ytmhknpkiddgcpaa
