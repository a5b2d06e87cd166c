/- The walks of the laws on the days of Easter. -/
import Derived.Test.YtegoiiconhgjbaaEasF
import Derived.Test.YtegoiiconhgjbaaEasH
namespace Go.Proofs.Ytegoiiconhgjbaa.Eas
open Go.RowKit

set_option maxHeartbeats 400000 in
theorem walk_FnExactOldEaster (y : Int) (_f : (Lit.int .i64 y).wf = true) (w : World) : Calls Try.prog 6 #[.int .i64 y] w (Bl true w) := by
  have A := Lib.hid (spec_OldEaster y)
  have B := Lib.hid (impl_OldEaster y)
  generalize oldN y = a at A B
  generalize yErr y = b at A B
  go_enter Try.func6, Try.ntmps6
  go_wp2_with fail
  refine (A.out _).mono ?_
  rintro e w1 ⟨rfl, hb⟩
  go_wp2_with fail
  refine (B.out _).mono ?_
  rintro e w2 ⟨rfl, hb2⟩
  go_wp2_with fail
  go_ret
  exact ⟨rfl, hb.trans (hb2.mono hb.size)⟩

set_option maxHeartbeats 400000 in
theorem walk_FnExactNewEaster (y : Int) (_f : (Lit.int .i64 y).wf = true) (w : World) : Calls Try.prog 7 #[.int .i64 y] w (Bl true w) := by
  have A := Lib.hid (spec_NewEaster y)
  have B := Lib.hid (impl_NewEaster y)
  generalize newN y = a at A B
  generalize newErr y = b at A B
  go_enter Try.func7, Try.ntmps7
  go_wp2_with fail
  refine (A.out _).mono ?_
  rintro e w1 ⟨rfl, hb⟩
  go_wp2_with fail
  refine (B.out _).mono ?_
  rintro e w2 ⟨rfl, hb2⟩
  go_wp2_with fail
  go_ret
  exact ⟨rfl, hb.trans (hb2.mono hb.size)⟩

end Go.Proofs.Ytegoiiconhgjbaa.Eas
