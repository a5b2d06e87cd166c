/- Whether a span has a day: impl's method. -/
import Derived.Test.YtfhcakpmlppbkaaGreatDoorSetI
namespace Go.Proofs.YtfhcakpmlppbkaaGreatDoor.Sets
open Go.RowKit

theorem impl_spanHas (f t d : Int) (b : Bool) (hb : decide (f ≤ d ∧ d ≤ t) = b) (w : World) :
    Calls Tryz.prog 65 #[.agg #[.int .i64 f, .int .i64 t], .int .i64 d] w (Bl b w) := by
  have fin : Below w.heap.size w (w.alloc (.cells #[.int .i64 f, .int .i64 t] 36)) := (Below.refl _ _).alloc (Nat.le_refl _) _
  subst hb
  by_cases h0 : f ≤ d
  · by_cases h1 : d ≤ t
    · have r := Lib.hid (show decide (f ≤ d ∧ d ≤ t) = true from decide_eq_true ⟨h0, h1⟩)
      go_enter Tryz.func65, Tryz.ntmps65
      go_wp2
      go_ret
      exact ⟨by first | rfl | (rw [r.out]; rfl), fin⟩
    · have r := Lib.hid (show decide (f ≤ d ∧ d ≤ t) = false from decide_eq_false fun h => h1 h.2)
      have h1' : decide (d ≤ t) = false := by simpa using h1
      go_enter Tryz.func65, Tryz.ntmps65
      go_wp2
      go_ret
      exact ⟨by first | rfl | (rw [r.out]; rfl), fin⟩
  · have r := Lib.hid (show decide (f ≤ d ∧ d ≤ t) = false from decide_eq_false fun h => h0 h.1)
    have h0' : decide (f ≤ d) = false := by simpa using h0
    go_enter Tryz.func65, Tryz.ntmps65
    go_wp2
    go_ret
    exact ⟨by first | rfl | (rw [r.out]; rfl), fin⟩

end Go.Proofs.YtfhcakpmlppbkaaGreatDoor.Sets
