/- The walks of the laws on the golden number, the Sunday letters and the Easter term. -/
import Derived.Test.YtegoiiconhgjbaaEasA
namespace Go.Proofs.Ytegoiiconhgjbaa.Eas
open Go.RowKit

set_option maxHeartbeats 400000 in
theorem walk_FnExactEasterTerm (y : Int) (_f : (Lit.int .i64 y).wf = true) (w : World) : Calls Try.prog 8 #[.int .i64 y] w (Bl true w) := by
  have A := Lib.hid (spec_EasterTerm y)
  have B := Lib.hid (impl_EasterTerm y)
  generalize termN y = a at A B
  generalize yErr y = b at A B
  go_enter Try.func8, Try.ntmps8
  go_wp2_with fail
  refine (A.out _).mono ?_
  rintro e w1 ⟨rfl, hb⟩
  go_wp2_with fail
  refine (B.out _).mono ?_
  rintro e w2 ⟨rfl, hb2⟩
  go_wp2_with fail
  go_ret
  exact ⟨rfl, hb.trans (hb2.mono hb.size)⟩

end Go.Proofs.Ytegoiiconhgjbaa.Eas
