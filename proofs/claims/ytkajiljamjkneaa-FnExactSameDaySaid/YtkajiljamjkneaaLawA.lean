/- The walks of the laws on whether a date is one, on the day of a date and on the weekday of a day. -/
import Derived.Test.YtkajiljamjkneaaDaysE
namespace Go.Proofs.Ytkajiljamjkneaa
open Go.RowKit

set_option maxHeartbeats 400000 in
theorem laws_toDate (y m d : Int) (w : World) :
    Calls Try.prog 33 #[.agg #[.int .i64 y, .int .i64 m, .int .i64 d]] w fun e w' => e = .returned (.agg #[.int .i64 y, .int .i64 m, .int .i64 d]) ∧ Below w.heap.size w w' := by
  go_enter Try.func33, Try.ntmps33
  go_wp2
  refine bodyPost_ret (v := .agg #[.int .i64 y, .int .i64 m, .int .i64 d]) (by simp [results, Try.results33, go_sem]) rfl ⟨rfl, ?_⟩
  exact ((((Below.refl _ _).alloc (Nat.le_refl _) _).alloc (by simp) _).alloc (by simp; omega) _)

set_option maxHeartbeats 400000 in
theorem laws_eqDate (y m d y' m' d' : Int) (w : World) (e1 : y = y') (e2 : m = m') (e3 : d = d') :
    Calls Try.prog 34 #[.agg #[.int .i64 y, .int .i64 m, .int .i64 d], .agg #[.int .i64 y', .int .i64 m', .int .i64 d']] w (Bl true w) := by
  subst e1 e2 e3
  go_enter Try.func34, Try.ntmps34
  go_wp2
  go_ret
  exact ⟨rfl, ((Below.refl _ _).alloc (Nat.le_refl _) _).alloc (by simp) _⟩

end Go.Proofs.Ytkajiljamjkneaa
