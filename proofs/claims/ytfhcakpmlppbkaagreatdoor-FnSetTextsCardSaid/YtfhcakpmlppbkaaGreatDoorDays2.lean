/- Contracts of impl's functions that turn dates into days and days into dates. -/
import Derived.Test.YtfhcakpmlppbkaaGreatDoorDays
namespace Go.Proofs.YtfhcakpmlppbkaaGreatDoor
open Go.RowKit

set_option maxHeartbeats 400000 in
theorem impl_number_no (f : Bool) (y m d : Int) (hv : vb f y m d = false) (w : World) :
    Calls Tryz.prog 159 #[.agg #[.int .i64 y, .int .i64 m, .int .i64 d], .int .i64 (rk f)] w fun e w' => e = .returned (.tuple #[.int .i64 0, .int .i64 1]) ∧ Below w.heap.size w w' := by
  go_enter Tryz.func159, Tryz.ntmps159
  go_wp2_with (go_at_call 144; refine (impl_isIn f y m d _).mono ?_; rintro e w1 ⟨rfl, hb⟩)
  go_ret2
  exact ⟨rfl, ((Below.refl _ _).alloc (Nat.le_refl _) _).trans (hb.mono (by simp))⟩

set_option maxHeartbeats 400000 in
theorem impl_number (f : Bool) (y m d : Int) (hv : Cal.valid f y m d) (w : World) :
    Calls Tryz.prog 159 #[.agg #[.int .i64 y, .int .i64 m, .int .i64 d], .int .i64 (rk f)] w fun e w' => e = .returned (.tuple #[.int .i64 (Cal.num f y m d), .int .i64 0]) ∧ Below w.heap.size w w' := by
  have hb1 := vb_true hv
  obtain ⟨y1, y2, m1, m2, d1, d2⟩ := hv
  have dm := (Cal.mlen_bd f y m).2
  have yb := Cal.ys_bd f y y1 (by omega)
  go_enter Tryz.func159, Tryz.ntmps159
  go_wp2_with (go_at_call 144; refine (impl_isIn f y m d _).mono ?_; rintro e w1 ⟨rfl, hb⟩; obtain ⟨hc, hf⟩ := bcell hb)
  go_quiet ((go_at_call 115; exact Calls.quiet_of_same ((impl_ys f y (by omega) (by omega) _).mono fun _ _ ⟨a, b⟩ => ⟨a, b.symm⟩)))
  go_wp2_with fail
  go_loop [6, 7] (fun s k => ∃ j : Int, 1 ≤ j ∧ j ≤ m ∧ k = .int .i64 j ∧ s = .int .i64 (Cal.ys f y + d - 1 + Cal.cum f y j)) (fun _ k => (m - intOf k).toNat)
  case atStart => exact ⟨1, by omega, by omega, rfl, by simp [Cal.cum_one]⟩
  case round =>
    obtain ⟨j, hj1, hj2, rfl, rfl⟩ := hrel
    have cb := Cal.cum_bd f y j hj1 (by omega)
    have ml := Cal.mlen_bd f y j
    have cs := Lib.hid (Cal.cum_succ f y j hj1)
    by_cases hlt : j < m
    · go_wp2_with (go_at_call 116; refine (impl_mlen f y j (by omega) _).mono ?_; rintro e w2 ⟨rfl, rfl⟩)
      go_round
      case rel => exact ⟨j + 1, by omega, by omega, rfl, by rw [cs.out]; go_num⟩
      case measure => simp [intOf]; omega
    · have hm := Lib.hid (show j = m by omega)
      go_wp2_with fail
      go_ret2
      exact ⟨ret_ii (by rw [hm.out]; unfold Cal.num; omega) rfl, below_drewN (((Below.refl _ _).alloc (Nat.le_refl _) _).trans (hb.mono (by simp))) _⟩

end Go.Proofs.YtfhcakpmlppbkaaGreatDoor
