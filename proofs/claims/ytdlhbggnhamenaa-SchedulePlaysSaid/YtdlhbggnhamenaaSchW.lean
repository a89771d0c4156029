/- Contracts of the program's schedule package: find, At, Whole, Ticks. -/
import Derived.Test.YtdlhbggnhamenaaSchQ
import Derived.Test.YtdlhbggnhamenaaBlk
import Derived.Deep.Cut
namespace Go.Proofs.Ytdlhbggnhamenaa
open Go.RowKit
set_option linter.unusedVariables false
set_option linter.unusedSimpArgs false

theorem intsZ : ZT Try.prog 32 3 := ⟨Try.underlying32, by kernel_rfl⟩
theorem winsP : PT Try.prog 22 35 := ⟨Try.underlying22, by kernel_rfl⟩

def WhR (l : List Reg) (n : Nat) (w : World) (s3 s11 : Value) (wr : World) : Prop :=
  ∃ k m : Nat, k ≤ n ∧ s11 = .int .i64 (k : Int) ∧ wr.ownsRow w.heap.size 3 1 s3 m ((partsW (l.take k)).map iv) ∧ Below w.heap.size w wr
def WhI (l : List Reg) (k g : Nat) (w : World) (s3 s17 : Value) (wr : World) : Prop :=
  ∃ j m : Nat, (j : Int) ≤ (rat l k).1 ∧ s17 = .int .i64 (j : Int) ∧ wr.ownsRow w.heap.size 3 1 s3 m ((partsW (l.take k) ++ List.replicate j (rat l k).2).map iv) ∧ Below w.heap.size w wr ∧ Blk 35 wr g [(rat l k).1, (rat l k).2]
theorem parts_short {l : List Reg} (hm : mayW l = true) {k j : Nat} (hk : k < l.length) (hj : (j : Int) ≤ (rat l k).1) : (partsW (l.take k) ++ List.replicate j (rat l k).2).length ≤ 64 := by
  have h1 := partsW_len (l := l.take k) fun x hx => may_ok hm x (List.mem_of_mem_take hx)
  have h2 := sumW_succ hk
  have h3 := (sumW_take_le (may_ok hm) (k + 1)).2
  have h4 := may_pos hm
  rw [List.length_append, List.length_replicate]
  omega

set_option maxRecDepth 1000000 in
set_option maxHeartbeats 1000000 in
theorem Sch.whole (A : Option Addr) (n c : Nat) (l : List Reg) (w : World) (h : RdG w w.heap.size A n l) (hn : n ≤ 9223372036854775807) :
    Calls Try.prog 15 #[.slice A n c] w fun e w' => RetZ 3 w (wholeW l) e w' := by
  have R := Lib.hid h
  have HN := Lib.hid hn
  clear h hn
  go_enter Try.func15, Try.ntmps15
  go_wp2_with fail
  refine (Sch.may A n c l w R.out HN.out).mono ?_
  rintro e w1 ⟨rfl, hb⟩
  have B := Lib.hid hb
  clear hb
  cases hm : mayW l
  · have HF := Lib.hid (wholeW_not hm)
    clear hm
    go_wp2_with fail
    go_ret
    refine ⟨none, 0, 0, rfl, ?_, B.out⟩
    rw [HF.out]
    exact ⟨rfl, .inl ⟨rfl, rfl⟩⟩
  have HF := Lib.hid (wholeW_may hm)
  have HM := Lib.hid hm
  have H12 : Hid (n ≤ 12) := by (show _ ≤ _); rw [← R.out.1]; exact (mayW_iff.1 hm).2.1
  clear hm
  go_wp2_with fail
  go_loopw [3, 5, 11, 17] (fun s3 _ s11 _ wr => WhR l n w s3 s11 wr) (fun _ _ s11 _ _ => n - (intOf s11).toNat)
  case atStart => exact ⟨0, 0, Nat.zero_le _, rfl, ⟨rfl, .inl ⟨rfl, rfl⟩⟩, B.out⟩
  case round =>
    obtain ⟨k, m, hk, rfl, hown, hb⟩ := hrel
    replace B := Lib.hid hb
    have OWN := Lib.hid hown
    clear hb hown
    by_cases hlt : k < n
    · obtain ⟨b, o, rfl, hbo, hc⟩ := ((R.out.below B.out).more B.out.size).2 (by omega)
      have c0 := (hc k hlt).1
      have c1 := (hc k hlt).2
      have hltI : (k : Int) < (n : Int) := by omega
      have HK : Hid (k < n) := hlt
      have HKL : Hid (k < l.length) := by (show _ < _); rw [R.out.1]; exact hlt
      have hwk : IntKind.i64.wrap ((k : Int) + 1) = (k : Int) + 1 := by have := H12.out; rw [IntKind.wrap_i64]; omega
      clear hc hk hlt hbo
      go_wp2_with fail
      have BX : Hid (Blk 35 (wr.alloc (.cells #[.int .i64 (rat l k).1, .int .i64 (rat l k).2] 35)) wr.heap.size [(rat l k).1, (rat l k).2]) := Blk.new 35 wr [(rat l k).1, (rat l k).2]
      replace OWN := Lib.hid (OWN.out.alloc (.cells #[.int .i64 (rat l k).1, .int .i64 (rat l k).2] 35))
      replace B := Lib.hid (B.out.alloc B.out.size (.cells #[.int .i64 (rat l k).1, .int .i64 (rat l k).2] 35))
      clear c0 c1
      generalize wr.alloc (.cells #[.int .i64 (rat l k).1, .int .i64 (rat l k).2] 35) = wb at *
      generalize wr.heap.size = g at *
      clear wr
      have c0 := BX.out.at 0 rfl
      have c1 := BX.out.at 1 rfl
      have HP := Lib.hid (okW_at (may_ok HM.out) HKL.out)
      go_wp2_with fail
      clear c0 c1
      go_loopw [3, 17] (fun s3 s17 wr => WhI l k g w s3 s17 wr) (fun _ s17 _ => (rat l k).1.toNat - (intOf s17).toNat)
      case atStart => exact ⟨0, m, by have := HP.out; omega, rfl, by rw [List.replicate_zero, List.append_nil]; exact OWN.out, B.out, BX.out⟩
      case round =>
        obtain ⟨j, q, hj, rfl, hown, hb, hx⟩ := hrel
        replace B := Lib.hid hb
        replace OWN := Lib.hid hown
        replace BX := Lib.hid hx
        clear hb hown hx
        by_cases hjl : (j : Int) < (rat l k).1
        · have HJ : Hid ((j : Int) < (rat l k).1) := hjl
          have HS := Lib.hid (parts_short HM.out HKL.out hj)
          have hwj : IntKind.i64.wrap ((j : Int) + 1) = (j : Int) + 1 := by have := HP.out; rw [IntKind.wrap_i64]; omega
          have c1 := BX.out.at 1 rfl
          have HQ : Hid (q + 1 ≤ 17592186044416) := by
            show _ ≤ _
            have h1 := HS.out
            have h2 := OWN.out.1
            rw [List.length_map] at h2
            omega
          clear hj
          go_wp2_with (at_builtin; refine wpList_pushZX intsZ rfl (.tmp 19) (.tmp 22) rfl rfl rfl OWN.out B.out B.out.size HQ.out ?_; intro v' w2 hown2 hb2 hs2 hx2; clear c1)
          go_roundw
          case rel =>
            refine ⟨j + 1, q + 1, by have := HJ.out; push_cast; omega, by go_num, ?_, hb2, hx2 _ _ _ (by decide) BX.out⟩
            rw [List.replicate_succ', ← List.append_assoc]; exact hown2
          case measure => have := HJ.out; simp [intOf]; omega
        · have HE : Hid ((j : Int) = (rat l k).1) := by (show _ = _); omega
          clear hj
          go_wp2
          go_roundw
          case rel =>
            refine ⟨k + 1, q, HK.out, by go_num, ?_, B.out⟩
            rw [partsW_succ HKL.out, show (rat l k).1.toNat = j from by have := HE.out; omega]; exact OWN.out
          case measure => have := HK.out; simp [intOf]; omega
    · obtain rfl : k = n := by omega
      have hltI : ¬ (k : Int) < (k : Int) := by omega
      clear hk hlt
      rw [List.take_of_length_le (by rw [R.out.1]; exact Nat.le_refl _)] at OWN
      go_wp2
      go_ret
      refine RetZ.mk (n := m) ?_ B.out
      rw [HF.out]
      exact OWN.out

def slotV (s : Int × Int × Int × Int) : Value := .agg #[.int .i64 s.1, .int .i64 s.2.1, .int .i64 s.2.2.1, .int .i64 s.2.2.2]
/-- One result, a struct of four ints in a block. -/
theorem res_slot {fn : Func} {p : Tmp} (h : fn.results = #[.cell p 24]) (tmps : Array Value) (w : World) (g : Nat) (a b c d : Int) (hp : tmps.getD p undef = .pointer (some ⟨g, 0, none⟩)) (hx : Blk 24 w g [a, b, c, d]) :
    (results fn tmps).run Try.prog w = .ok (slotV (a, b, c, d)) w := by
  have hp' : tmps[p]?.getD undef = .pointer (some ⟨g, 0, none⟩) := by simpa using hp
  have c0 := hx.at 0 rfl
  have c1 := hx.at 1 rfl
  have c2 := hx.at 2 rfl
  have c3 := hx.at 3 rfl
  simp [results, h, hp', asAddr, slotV]
  go_simp
/-- A struct of four ints in a block, and an error's number. -/
theorem res_slotE {fn : Func} {p q : Tmp} (h : fn.results = #[.cell p 24, .tmp q]) (tmps : Array Value) (w : World) (g : Nat) (a b c d : Int) (v : Value) (hp : tmps.getD p undef = .pointer (some ⟨g, 0, none⟩)) (hq : tmps.getD q undef = v) (hx : Blk 24 w g [a, b, c, d]) :
    (results fn tmps).run Try.prog w = .ok (.tuple #[slotV (a, b, c, d), v]) w := by
  have hp' : tmps[p]?.getD undef = .pointer (some ⟨g, 0, none⟩) := by simpa using hp
  have hq' : tmps[q]?.getD undef = v := by simpa using hq
  have c0 := hx.at 0 rfl
  have c1 := hx.at 1 rfl
  have c2 := hx.at 2 rfl
  have c3 := hx.at 3 rfl
  simp [results, h, hp', hq', asAddr, slotV]
  go_simp
def RetS (w : World) (a : (Int × Int × Int × Int) × Int) (e : Ending) (w' : World) : Prop := e = .returned (.tuple #[slotV a.1, .int .i64 a.2]) ∧ Below w.heap.size w w'

/-- Where find stands: the tick is in none of the windows that were gone through. -/
def FiR (l : List Reg) (n : Nat) (t : Int) (w : World) (s6 s12 : Value) (wr : World) : Prop :=
  ∃ k : Nat, k ≤ n ∧ s12 = .int .i64 (k : Int) ∧ s6 = .int .i64 (sumW (l.take k)) ∧ sumW (l.take k) ≤ t ∧ Below w.heap.size w wr ∧ Blk 24 wr w.heap.size [0, 0, 0, 0] ∧ ∃ a b c d, Blk 24 wr (w.heap.size + 1) [a, b, c, d]
def FiI (l : List Reg) (t : Int) (k : Nat) (w1 : World) (s6 s24 : Value) (wr : World) : Prop :=
  ∃ j : Nat, (j : Int) ≤ (rat l k).1 ∧ s24 = .int .i64 (j : Int) ∧ s6 = .int .i64 (sumW (l.take k) + (j : Int)) ∧ sumW (l.take k) + (j : Int) ≤ t ∧ wr = w1

set_option maxRecDepth 1000000 in
set_option maxHeartbeats 1000000 in
theorem Sch.find (A : Option Addr) (n c : Nat) (l : List Reg) (t : Int) (i : Nat) (w : World) (h : RdG w w.heap.size A n l) (hm : mayW l = true) (h0 : 0 ≤ t) (hi : Stands l t i) :
    Calls Try.prog 18 #[.slice A n c, .int .i64 t] w fun e w' => e = .returned (slotV (slotW l t i)) ∧ Below w.heap.size w w' := by
  have R := Lib.hid h
  have HM := Lib.hid hm
  have H0 := Lib.hid h0
  have HI := Lib.hid hi
  have X4 : Hid (Blk 24 ((w.alloc (.cells #[.int .i64 0, .int .i64 0, .int .i64 0, .int .i64 0] 24)).alloc (.cells #[.int .i64 0, .int .i64 0, .int .i64 0, .int .i64 0] 24)) w.heap.size [0, 0, 0, 0]) := (Blk.new 24 w [0, 0, 0, 0]).to ((Below.refl _ _).alloc (Nat.le_refl _) _)
  have X5 : Hid (Blk 24 ((w.alloc (.cells #[.int .i64 0, .int .i64 0, .int .i64 0, .int .i64 0] 24)).alloc (.cells #[.int .i64 0, .int .i64 0, .int .i64 0, .int .i64 0] 24)) (w.heap.size + 1) [0, 0, 0, 0]) := by
    have := Blk.new 24 (w.alloc (.cells #[.int .i64 0, .int .i64 0, .int .i64 0, .int .i64 0] 24)) [0, 0, 0, 0]
    rw [World.size_alloc] at this
    exact this
  have B := Lib.hid (((Below.refl w.heap.size w).alloc (Nat.le_refl _) (.cells #[.int .i64 0, .int .i64 0, .int .i64 0, .int .i64 0] 24)).alloc (by simp) (.cells #[.int .i64 0, .int .i64 0, .int .i64 0, .int .i64 0] 24))
  clear h hm h0 hi
  go_enter Try.func18, Try.ntmps18
  go_wp2_with fail
  go_step3
  go_wp2_with fail
  go_step3
  go_wp2_with fail
  go_loopw [6, 7, 8, 9, 12, 24] (fun s6 _ _ _ s12 _ wr => FiR l n t w s6 s12 wr) (fun _ _ _ _ s12 _ _ => n - (intOf s12).toNat)
  case atStart => exact ⟨0, Nat.zero_le _, rfl, rfl, H0.out, B.out, X4.out, _, _, _, _, X5.out⟩
  case round =>
    obtain ⟨k, hk, rfl, rfl, hs, hb, hx4, a, b, cc, d, hx5⟩ := hrel
    replace B := Lib.hid hb
    replace X4 := Lib.hid hx4
    replace X5 := Lib.hid hx5
    have HS := Lib.hid hs
    clear hb hx4 hx5 hs
    have hlt : k < n := by
      rcases Nat.lt_or_ge k n with g | g
      · exact g
      · have h1 := HS.out
        obtain ⟨_, _, h2⟩ := HI.out
        have h3 := (sumW_take_le (may_ok HM.out) (i + 1)).2
        rw [List.take_of_length_le (by rw [R.out.1]; exact g)] at h1
        omega
    obtain ⟨b', o, rfl, hbo, hc⟩ := ((R.out.below B.out).more B.out.size).2 (by omega)
    have c0 := (hc k hlt).1
    have c1 := (hc k hlt).2
    have hltI : (k : Int) < (n : Int) := by omega
    have HK : Hid (k < n) := hlt
    have HKL : Hid (k < l.length) := by (show _ < _); rw [R.out.1]; exact hlt
    have hwk : IntKind.i64.wrap ((k : Int) + 1) = (k : Int) + 1 := by have h1 := (mayW_iff.1 HM.out).2.1; have h2 := R.out.1; rw [IntKind.wrap_i64]; omega
    clear hc hk hlt hbo
    have BW := Lib.hid ((Below.refl wr.heap.size wr).alloc (Nat.le_refl _) (.cells #[.int .i64 (rat l k).1, .int .i64 (rat l k).2] 35))
    have BX : Hid (Blk 35 (wr.alloc (.cells #[.int .i64 (rat l k).1, .int .i64 (rat l k).2] 35)) wr.heap.size [(rat l k).1, (rat l k).2]) := Blk.new 35 wr [(rat l k).1, (rat l k).2]
    have HNE : Hid (w.heap.size + 1 < wr.heap.size) := X5.out.lt
    replace X5 := Lib.hid (X5.out.to BW.out)
    replace X4 := Lib.hid (X4.out.to BW.out)
    replace B := Lib.hid (B.out.alloc B.out.size (.cells #[.int .i64 (rat l k).1, .int .i64 (rat l k).2] 35))
    go_upto_region 6 with (fail)
    clear c0 c1
    generalize wr.alloc (.cells #[.int .i64 (rat l k).1, .int .i64 (rat l k).2] 35) = wb at *
    generalize wr.heap.size = g8 at *
    clear BW wr
    have c1 := BX.out.at 1 rfl
    have d0 := X5.out.at 0 rfl
    have d1 := X5.out.at 1 rfl
    have d2 := X5.out.at 2 rfl
    have d3 := X5.out.at 3 rfl
    have f0 := X5.out.fz 0
    have f1 := X5.out.fz 1
    have f2 := X5.out.fz 2
    have f3 := X5.out.fz 3
    go_upto_region 7 with (fail)
    have hx5 := X5.out.set4 (k : Int) (rat l k).2 (sumW (l.take k)) 0
    have hx4 := X4.out.other4 (Nat.ne_of_lt (Nat.lt_succ_self w.heap.size)) (k : Int) (rat l k).2 (sumW (l.take k)) 0
    have hbx := BX.out.other4 (g' := w.heap.size + 1) (by have := HNE.out; omega) (k : Int) (rat l k).2 (sumW (l.take k)) 0
    have hb := below_set4 B.out (g := w.heap.size + 1) (by omega) (k : Int) (rat l k).2 (sumW (l.take k)) 0
    clear c1 d0 d1 d2 d3 f0 f1 f2 f3
    unfold set4 at hx5 hx4 hbx hb
    replace X5 := Lib.hid hx5
    replace X4 := Lib.hid hx4
    replace BX := Lib.hid hbx
    replace B := Lib.hid hb
    clear hx5 hx4 hbx hb
    generalize (((wb.setCell ⟨w.heap.size + 1, 0, none⟩ (.int .i64 (k : Int))).setCell ⟨w.heap.size + 1, 1, none⟩ (.int .i64 (rat l k).2)).setCell ⟨w.heap.size + 1, 2, none⟩ (.int .i64 (sumW (l.take k)))).setCell ⟨w.heap.size + 1, 3, none⟩ (.int .i64 0) = w2 at *
    have c0 := BX.out.at 0 rfl
    have HP := Lib.hid (okW_at (may_ok HM.out) HKL.out)
    have HSS := Lib.hid (sumW_succ HKL.out)
    have HSB := Lib.hid (sumW_take_le (may_ok HM.out) k)
    have HSF := Lib.hid (may_pos HM.out)
    go_wp2_with fail
    go_loopw [6, 9, 24] (fun s6 _ s24 wr => FiI l t k w2 s6 s24 wr) (fun _ _ s24 _ => (rat l k).1.toNat - (intOf s24).toNat)
    case atStart => exact ⟨0, by have := HP.out; omega, rfl, by simp, by have := HS.out; simpa using this, rfl⟩
    case round =>
      obtain ⟨j, hj, rfl, rfl, hle, rfl⟩ := hrel
      by_cases hjl : (j : Int) < (rat l k).1
      · by_cases heq : sumW (l.take k) + (j : Int) = t
        · have hd : ((sumW (l.take k) + (j : Int)) == t) = true := by simpa using heq
          have hwl : IntKind.i64.wrap ((rat l k).1 - (j : Int)) = (rat l k).1 - (j : Int) := by have := HP.out; rw [IntKind.wrap_i64]; omega
          have hik : i = k := stands_unique (may_ok HM.out) HI.out ⟨HKL.out, by omega, by rw [HSS.out]; omega⟩
          have HSL : Hid (slotW l t i = ((k : Int), (rat l k).2, sumW (l.take k), (rat l k).1 - (j : Int))) := by
            show _ = _
            subst hik
            unfold slotW
            rw [HSS.out, ← heq]
            congr 3
            omega
          have d0 := X5.out.at 0 rfl
          have d1 := X5.out.at 1 rfl
          have d2 := X5.out.at 2 rfl
          have d3 := X5.out.at 3 rfl
          have f3 := X5.out.fz 3
          have e0 := X4.out.at 0 rfl
          have e1 := X4.out.at 1 rfl
          have e2 := X4.out.at 2 rfl
          have e3 := X4.out.at 3 rfl
          have z0 := X4.out.fz 0
          have z1 := X4.out.fz 1
          have z2 := X4.out.fz 2
          have z3 := X4.out.fz 3
          clear hj hle heq hik
          go_wp2_with fail
          try rw [Exit.noGoto_ret]
          refine bodyPost_ret (res_slot rfl _ _ w.heap.size (k : Int) (rat l k).2 (sumW (l.take k)) ((rat l k).1 - (j : Int)) rfl ?_) rfl ⟨by rw [HSL.out], ?_⟩
          · exact ((X4.out.other (Nat.ne_of_lt (Nat.lt_succ_self w.heap.size))).set4 _ _ _ _)
          · exact below_set4 (B.out.setCell (p := ⟨w.heap.size + 1, 3, none⟩) (Nat.le_succ _) _) (Nat.le_refl _) _ _ _ _
        · have hd : ((sumW (l.take k) + (j : Int)) == t) = false := by simpa using heq
          have HJ : Hid ((j : Int) < (rat l k).1 ∧ sumW (l.take k) + (j : Int) + 1 ≤ t) := by (show _ ∧ _); omega
          have hwj : IntKind.i64.wrap ((j : Int) + 1) = (j : Int) + 1 := by have := HP.out; rw [IntKind.wrap_i64]; omega
          have hws : IntKind.i64.wrap (sumW (l.take k) + (j : Int) + 1) = sumW (l.take k) + (j : Int) + 1 := by have := HP.out; have := HSB.out; have := HSF.out; rw [IntKind.wrap_i64]; omega
          clear hj hle heq
          go_wp2_with fail
          go_roundw
          case rel => exact ⟨j + 1, by have := HJ.out; push_cast; omega, by go_num, by congr 1; push_cast; omega, by have := HJ.out; push_cast; omega, rfl⟩
          case measure => have := HJ.out; simp [intOf]; omega
      · have HE : Hid ((j : Int) = (rat l k).1) := by (show _ = _); omega
        have HLE := Lib.hid hle
        clear hj hle
        go_wp2_with fail
        go_roundw
        case rel => exact ⟨k + 1, HK.out, by go_num, by rw [HSS.out, HE.out], by rw [HSS.out]; have := HLE.out; have := HE.out; omega, B.out, X4.out, _, _, _, _, X5.out⟩
        case measure => have := HK.out; simp [intOf]; omega

set_option maxRecDepth 1000000 in
set_option maxHeartbeats 1000000 in
theorem Sch.stand (A : Option Addr) (n c : Nat) (l : List Reg) (t : Int) (w : World) (h : RdG w w.heap.size A n l) (hn : n ≤ 9223372036854775807) :
    Calls Try.prog 8 #[.slice A n c, .int .i64 t] w fun e w' => RetS w (atW l t) e w' := by
  have B := Lib.hid ((Below.refl w.heap.size w).alloc (Nat.le_refl _) (.cells #[.int .i64 0, .int .i64 0, .int .i64 0, .int .i64 0] 24))
  have X4 : Hid (Blk 24 (w.alloc (.cells #[.int .i64 0, .int .i64 0, .int .i64 0, .int .i64 0] 24)) w.heap.size [0, 0, 0, 0]) := Blk.new 24 w [0, 0, 0, 0]
  have R := Lib.hid (h.to B.out)
  have HN := Lib.hid hn
  clear h hn
  by_cases h0 : t < 0
  · have HO := Lib.hid (atW_out (l := l) (.inl h0))
    go_enter Try.func8, Try.ntmps8
    go_wp2_with fail
    refine bodyPost_ret (res_slotE rfl _ _ w.heap.size 0 0 0 0 (.int .i64 90) rfl rfl X4.out) rfl ⟨by rw [HO.out], B.out⟩
  have H0 : Hid (0 ≤ t) := by (show _ ≤ _); omega
  go_enter Try.func8, Try.ntmps8
  go_wp2_with fail
  refine (Sch.frame A n c l _ R.out HN.out).mono ?_
  rintro e w1 ⟨rfl, hb⟩
  replace R := Lib.hid (R.out.to hb)
  replace X4 := Lib.hid (X4.out.to hb)
  replace B := Lib.hid (B.out.trans (hb.mono B.out.size))
  clear hb
  rcases at_cases l t with ho | ⟨_, hlt, hm, i, hi, ha⟩
  · have HO := Lib.hid (atW_out ho)
    have hge : t ≥ frameW l := by omega
    clear ho
    have e0 := X4.out.at 0 rfl
    have e1 := X4.out.at 1 rfl
    have e2 := X4.out.at 2 rfl
    have e3 := X4.out.at 3 rfl
    have z0 := X4.out.fz 0
    have z1 := X4.out.fz 1
    have z2 := X4.out.fz 2
    have z3 := X4.out.fz 3
    go_wp2_with fail
    refine bodyPost_ret (res_slotE rfl _ _ w.heap.size 0 0 0 0 (.int .i64 90) rfl rfl ?_) rfl ⟨by rw [HO.out], ?_⟩
    · exact X4.out.set4 _ _ _ _
    · exact below_set4 B.out (Nat.le_refl _) _ _ _ _
  · have HA := Lib.hid ha
    have HM := Lib.hid hm
    have HI := Lib.hid hi
    have hge : ¬ t ≥ frameW l := by omega
    clear hlt hm hi ha
    go_wp2_with fail
    refine (Sch.find A n c l t i w1 R.out HM.out H0.out HI.out).mono ?_
    rintro e w2 ⟨rfl, hb⟩
    replace X4 := Lib.hid (X4.out.to hb)
    replace B := Lib.hid (B.out.trans (hb.mono B.out.size))
    clear hb
    rcases hsl : slotW l t i with ⟨s0, s1, s2, s3⟩
    rw [hsl] at HA
    clear hsl
    unfold slotV
    dsimp only
    have e0 := X4.out.at 0 rfl
    have e1 := X4.out.at 1 rfl
    have e2 := X4.out.at 2 rfl
    have e3 := X4.out.at 3 rfl
    have z0 := X4.out.fz 0
    have z1 := X4.out.fz 1
    have z2 := X4.out.fz 2
    have z3 := X4.out.fz 3
    go_wp2_with fail
    refine bodyPost_ret (res_slotE rfl _ _ w.heap.size s0 s1 s2 s3 (.int .i64 0) rfl rfl ?_) rfl ⟨by rw [HA.out], ?_⟩
    · exact X4.out.set4 _ _ _ _
    · exact below_set4 B.out (Nat.le_refl _) _ _ _ _

def TiR (xs : List Int) (p : Int) (w1 : World) (s5 s11 : Value) (wr : World) : Prop :=
  ∃ k : Nat, k ≤ xs.length ∧ s11 = .int .i64 (k : Int) ∧ s5 = .int .i64 ((xs.take k).count p : Int) ∧ wr = w1
set_option maxRecDepth 1000000 in
set_option maxHeartbeats 1000000 in
theorem Sch.ticks (A : Option Addr) (n c : Nat) (l : List Reg) (p : Int) (w : World) (h : RdG w w.heap.size A n l) (hn : n ≤ 9223372036854775807) :
    Calls Try.prog 16 #[.slice A n c, .int .i64 p] w fun e w' => e = .returned (.int .i64 (ticksW l p : Int)) ∧ Below w.heap.size w w' := by
  have R := Lib.hid h
  have HN := Lib.hid hn
  clear h hn
  go_enter Try.func16, Try.ntmps16
  go_wp2_with fail
  refine (Sch.whole A n c l w R.out HN.out).mono ?_
  rintro e w1 ⟨A1, n1, c1, rfl, hown, hb⟩
  have B := Lib.hid hb
  have RZ := Lib.hid (RdZ.of_own hown)
  have HSM := Lib.hid (wholeW_small l)
  have HE : Hid ((wholeW l).count p = ticksW l p) := rfl
  generalize wholeW l = xs at *
  have HC : Hid (∀ k, (xs.take k).count p ≤ 64) := fun k => Nat.le_trans List.count_le_length (Nat.le_trans (by rw [List.length_take]; omega) HSM.out)
  clear hb hown
  go_wp2_with fail
  go_loopw [5, 7, 11] (fun s5 _ s11 wr => TiR xs p w1 s5 s11 wr) (fun _ _ s11 _ => n1 - (intOf s11).toNat)
  case atStart => exact ⟨0, Nat.zero_le _, rfl, rfl, rfl⟩
  case round =>
    obtain ⟨k, hk, rfl, rfl, rfl⟩ := hrel
    have hl := RZ.out.1
    by_cases hlt : k < n1
    · obtain ⟨b, o, rfl, hbo, hc⟩ := RZ.out.2 (by omega)
      have c0 := hc k hlt
      have hltI : (k : Int) < (n1 : Int) := by omega
      have HK : Hid (k < n1) := hlt
      have HL := Lib.hid hl
      have hs := count_succ (xs := xs) (k := k) (by omega) p
      have hb64 := HSM.out
      have hwk : IntKind.i64.wrap ((k : Int) + 1) = (k : Int) + 1 := by rw [IntKind.wrap_i64]; omega
      have hwc : IntKind.i64.wrap (((xs.take k).count p : Int) + 1) = ((xs.take k).count p : Int) + 1 := by have := HC.out k; rw [IntKind.wrap_i64]; omega
      rw [show xs.getD k 0 = zat xs k from rfl] at hs
      by_cases he : zat xs k = p
      · have hd : (zat xs k == p) = true := by simpa using he
        rw [if_pos he] at hs
        have HS := Lib.hid hs
        clear hc hk hlt hbo hl hs hb64 he
        go_wp2_with fail
        go_roundw
        case rel => exact ⟨k + 1, by have := HK.out; have := HL.out; omega, by go_num, by rw [HS.out]; push_cast; rfl, rfl⟩
        case measure => have := HK.out; simp [intOf]; omega
      · have hd : (zat xs k == p) = false := by simpa using he
        rw [if_neg he] at hs
        have HS := Lib.hid hs
        clear hc hk hlt hbo hl hs hb64 he
        go_wp2_with fail
        go_roundw
        case rel => exact ⟨k + 1, by have := HK.out; have := HL.out; omega, by go_num, by rw [HS.out]; rfl, rfl⟩
        case measure => have := HK.out; simp [intOf]; omega
    · obtain rfl : k = n1 := by omega
      have hltI : ¬ (k : Int) < (k : Int) := by omega
      rw [List.take_of_length_le (by omega)]
      clear hk hlt hl
      go_wp2_with fail
      go_ret
      exact ⟨by rw [← HE.out]; rfl, B.out⟩
end Go.Proofs.Ytdlhbggnhamenaa
