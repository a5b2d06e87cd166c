/- The walks of the laws on whether a date is one, on the day of a date and on the weekday of a day. -/
import Derived.Test.YtkmkfpglnmpnmaaDoorDaysE
namespace Go.Proofs.YtkmkfpglnmpnmaaDoor
open Go.RowKit

set_option maxHeartbeats 400000 in
theorem laws_toDate (y m d : Int) (w : World) :
    Calls Tryd.prog 19 #[.agg #[.int .i64 y, .int .i64 m, .int .i64 d]] w fun e w' => e = .returned (.agg #[.int .i64 y, .int .i64 m, .int .i64 d]) ∧ Below w.heap.size w w' := by
  go_enter Tryd.func19, Tryd.ntmps19
  go_wp2
  refine bodyPost_ret (v := .agg #[.int .i64 y, .int .i64 m, .int .i64 d]) (by simp [results, Tryd.results19, go_sem]) rfl ⟨rfl, ?_⟩
  exact ((((Below.refl _ _).alloc (Nat.le_refl _) _).alloc (by simp) _).alloc (by simp; omega) _)

end Go.Proofs.YtkmkfpglnmpnmaaDoor
