/- The laws' own back (citadellaw05), of any kind; of a reader that has failed; what its error may be. -/
import Derived.Test.YtmhknpkiddgcpaaWireBack
import Derived.Test.YtmhknpkiddgcpaaWireBackB
import Derived.Test.YtmhknpkiddgcpaaWireBackC
namespace Go.Proofs.Ytmhknpkiddgcpaa
open Go.RowKit
set_option linter.unusedVariables false
set_option linter.unusedSimpArgs false

theorem rBack (g : Nat) (F : Nat → Prop) (s : RS) (w : World) (what : Int) (h : PrAt w g F s) :
    Calls Try.prog 37 #[.pointer (some ⟨g, 0, none⟩), .int .i64 what] w (BackR w g F s what) := by
  by_cases c0 : what = 0
  · subst c0; exact rBack0 g F s w h
  by_cases c1 : what = 1
  · subst c1; exact rBack1 g F s w h
  by_cases c2 : what = 2
  · subst c2; exact rBack2 g F s w h
  by_cases c3 : what = 3
  · subst c3; exact rBack3 g F s w h
  by_cases c4 : what = 4
  · subst c4; exact rBack4 g F s w h
  by_cases c5 : what = 5
  · subst c5; exact rBack5 g F s w h
  exact rBackN g F s w what h c0 c1 c2 c3 c4 c5
theorem backF_tl (s : RS) (what : Int) : (backF s what).t.length = 32 := by
  unfold backF
  show (if what = 5 then tagV s else zeros32).length = 32
  split
  · exact tagV_len s
  · rfl
theorem next_e {s : RS} {n : Nat} (h : s.e = 0 ∨ s.e = 50) : (s.next n).e = 0 ∨ (s.next n).e = 50 := by
  unfold RS.next
  split
  · exact .inl rfl
  · split
    · exact .inr rfl
    · exact h
theorem backS_e {s : RS} (what : Int) (h : s.e = 0 ∨ s.e = 50) : (backS s what).e = 0 ∨ (backS s what).e = 50 := by
  unfold backS
  split
  · exact next_e h
  split
  · exact next_e h
  split
  · unfold flagS
    split
    · exact .inr rfl
    · exact next_e h
  split
  · unfold bytesS
    split
    · exact .inr rfl
    · exact next_e (next_e h)
  split
  · exact next_e h
  · exact h
theorem countS_e {s : RS} (most : Int) (h : s.e = 0 ∨ s.e = 50) : (countS s most).e = 0 ∨ (countS s most).e = 50 := by
  unfold countS
  split
  · exact .inr rfl
  · exact next_e h
theorem backS_bad {s : RS} (what : Int) (he : s.e ≠ 0) : backS s what = s := by
  have h1 := (bytes_bad he).2
  have h2 := (flagS_no (.inl he)).1
  unfold backS
  rw [next_bad he, next_bad he, next_bad he, h1, h2, next_bad he]
  simp
theorem backF_bad {s : RS} (what : Int) (he : s.e ≠ 0) : backF s what = ⟨what, 0, 0, false, [], zeros32⟩ := by
  have h1 := (bytes_bad he).1
  have h2 := (flagS_no (.inl he)).2
  have h3 : byteV s = 0 := UInt8.toNat_inj.1 (byteV_no (.inl he))
  have h4 := intV_no (s := s) (.inl he)
  have h5 := tagV_no (s := s) (.inl he)
  unfold backF
  rw [h1, h2, h3, h4, h5]
  simp
end Go.Proofs.Ytmhknpkiddgcpaa
