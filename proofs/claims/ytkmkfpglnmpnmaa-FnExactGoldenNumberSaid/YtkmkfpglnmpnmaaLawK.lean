/- The walks of the laws on the golden number, the Sunday letters and the Easter term. -/
import Derived.Test.YtkmkfpglnmpnmaaEasA
namespace Go.Proofs.Ytkmkfpglnmpnmaa.Eas
open Go.RowKit

set_option maxHeartbeats 400000 in
theorem walk_FnExactGoldenNumber (y : Int) (_f : (Lit.int .i64 y).wf = true) (w : World) : Calls Try.prog 21 #[.int .i64 y] w (Bl true w) := by
  have A := Lib.hid (spec_GoldenNumber y)
  have B := Lib.hid (impl_GoldenNumber y)
  generalize goldN y = a at A B
  generalize yErr y = b at A B
  go_enter Try.func21, Try.ntmps21
  go_wp2_with fail
  refine (A.out _).mono ?_
  rintro e w1 ⟨rfl, hb⟩
  go_wp2_with fail
  refine (B.out _).mono ?_
  rintro e w2 ⟨rfl, hb2⟩
  go_wp2_with fail
  go_ret
  exact ⟨rfl, hb.trans (hb2.mono hb.size)⟩

set_option maxHeartbeats 400000 in
theorem walk_FnExactSundayLetters (y : Int) (_f : (Lit.int .i64 y).wf = true) (w : World) : Calls Try.prog 22 #[.int .i64 y] w (Bl true w) := by
  have A := Lib.hid (spec_SundayLetters y)
  have B := Lib.hid (impl_SundayLetters y)
  generalize letA y = a at A B
  generalize letB y = c at A B
  generalize yErr y = b at A B
  go_enter Try.func22, Try.ntmps22
  go_wp2_with fail
  refine (A.out _).mono ?_
  rintro e w1 ⟨rfl, hb⟩
  go_wp2_with fail
  refine (B.out _).mono ?_
  rintro e w2 ⟨rfl, hb2⟩
  go_wp2_with fail
  go_ret
  exact ⟨rfl, hb.trans (hb2.mono hb.size)⟩

set_option maxHeartbeats 400000 in
theorem walk_FnExactEasterTerm (y : Int) (_f : (Lit.int .i64 y).wf = true) (w : World) : Calls Try.prog 23 #[.int .i64 y] w (Bl true w) := by
  have A := Lib.hid (spec_EasterTerm y)
  have B := Lib.hid (impl_EasterTerm y)
  generalize termN y = a at A B
  generalize yErr y = b at A B
  go_enter Try.func23, Try.ntmps23
  go_wp2_with fail
  refine (A.out _).mono ?_
  rintro e w1 ⟨rfl, hb⟩
  go_wp2_with fail
  refine (B.out _).mono ?_
  rintro e w2 ⟨rfl, hb2⟩
  go_wp2_with fail
  go_ret
  exact ⟨rfl, hb.trans (hb2.mono hb.size)⟩

end Go.Proofs.Ytkmkfpglnmpnmaa.Eas
