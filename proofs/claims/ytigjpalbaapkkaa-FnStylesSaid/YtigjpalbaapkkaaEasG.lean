/- Contracts of impl's OldEaster, NewEaster and LocalEaster (where a function of the year computes the days). -/
import Derived.Test.YtigjpalbaapkkaaEasB
namespace Go.Proofs.Ytigjpalbaapkkaa.Eas
open Go.RowKit

set_option maxHeartbeats 1000000 in
theorem impl_oldDate (y : Int) (h : isY y) (w : World) : Calls Try.prog 131 #[.int .i64 y] w (DateV y (oM y) (oD y) w) := by
  have D := Lib.hid (impl_moonDelay y (by have := h.1; omega))
  obtain ⟨d1, d2⟩ := delay_bd y
  obtain ⟨h1, h2⟩ := h
  have HE := Lib.hid (show (delay y + (2 * (y % 4) + 4 * (y % 7) - delay y + 34) % 7 + 114) / 31 = oM y ∧ (delay y + (2 * (y % 4) + 4 * (y % 7) - delay y + 34) % 7 + 114) % 31 + 1 = oD y from ⟨rfl, rfl⟩)
  generalize delay y = p at *
  go_enter Try.func131, Try.ntmps131
  go_wp2_with fail
  refine (D.out _).mono ?_
  rintro e w1 ⟨rfl, rfl⟩
  go_wp2_with fail
  refine bodyPost_ret (v := .agg #[.int .i64 y, .int .i64 (oM y), .int .i64 (oD y)]) (by rw [← HE.out.1, ← HE.out.2]; simp [results, Try.results131, go_sem]) rfl ⟨rfl, ?_⟩
  exact (Below.refl _ _).alloc (Nat.le_refl _) _

set_option maxHeartbeats 400000 in
theorem impl_keptOld (y : Int) (h : isY y) (w : World) : Calls Try.prog 125 #[.int .i64 y] w (It (oE y) w) := by
  have A1 := Lib.hid (impl_oldDate y h)
  have A2 := Lib.hid (show ∀ w, Calls Try.prog 85 #[.agg #[.int .i64 y, .int .i64 (oM y), .int .i64 (oD y)], .int .i64 0] w (Two (oE y) 0 w) from impl_number false y (oM y) (oD y) (o_valid y h))
  clear h
  generalize oM y = m at A1 A2
  generalize oD y = d at A1 A2
  generalize oE y = n at A2
  go_enter Try.func125, Try.ntmps125
  go_wp2_with fail
  refine (A1.out _).mono ?_
  rintro e w1 ⟨rfl, hb⟩
  go_wp2_with fail
  refine (A2.out _).mono ?_
  rintro e w2 ⟨rfl, hb2⟩
  go_wp2_with fail
  go_ret
  exact ⟨rfl, hb.trans (hb2.mono hb.size)⟩

end Go.Proofs.Ytigjpalbaapkkaa.Eas
