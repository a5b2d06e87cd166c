/- Contracts of impl's OldEaster, NewEaster and LocalEaster (where a function of the year computes the days). -/
import Derived.Test.YtegoiiconhgjbaaEasC
namespace Go.Proofs.Ytegoiiconhgjbaa.Eas
open Go.RowKit
open Go.Proofs.Ytegoiiconhgjbaa.Plc

set_option maxHeartbeats 1000000 in
theorem impl_oldDate (y : Int) (h : isY y) (w : World) : Calls Try.prog 80 #[.int .i64 y] w (DateV y (oM y) (oD y) w) := by
  have D := Lib.hid (impl_moonDelay y (by have := h.1; omega))
  obtain ⟨d1, d2⟩ := delay_bd y
  obtain ⟨h1, h2⟩ := h
  have HE := Lib.hid (show (delay y + (2 * (y % 4) + 4 * (y % 7) - delay y + 34) % 7 + 114) / 31 = oM y ∧ (delay y + (2 * (y % 4) + 4 * (y % 7) - delay y + 34) % 7 + 114) % 31 + 1 = oD y from ⟨rfl, rfl⟩)
  generalize delay y = p at *
  go_enter Try.func80, Try.ntmps80
  go_wp2_with fail
  refine (D.out _).mono ?_
  rintro e w1 ⟨rfl, rfl⟩
  go_wp2_with fail
  refine bodyPost_ret (v := .agg #[.int .i64 y, .int .i64 (oM y), .int .i64 (oD y)]) (by rw [← HE.out.1, ← HE.out.2]; simp [results, Try.results80, go_sem]) rfl ⟨rfl, ?_⟩
  exact (Below.refl _ _).alloc (Nat.le_refl _) _

set_option maxHeartbeats 2000000 in
theorem impl_newDate (y : Int) (h : isN y) (w : World) : Calls Try.prog 148 #[.int .i64 y] w (DateV y (nM y) (nD y) w) := by
  obtain ⟨⟨a1, a2⟩, a3, a4⟩ := new_bd y
  obtain ⟨h1, h2⟩ := h
  go_enter Try.func148, Try.ntmps148
  go_wp2_with fail
  refine bodyPost_ret (v := .agg #[.int .i64 y, .int .i64 (nM y), .int .i64 (nD y)]) (by simp only [nD, nM, nL, nJ, nI, nH]; simp [results, Try.results148, go_sem]) rfl ⟨rfl, ?_⟩
  exact (Below.refl _ _).alloc (Nat.le_refl _) _

set_option maxHeartbeats 400000 in
theorem impl_keptOld (y : Int) (h : isY y) (w : World) : Calls Try.prog 84 #[.int .i64 y] w (It (oE y) w) := by
  have A1 := Lib.hid (impl_oldDate y h)
  have A2 := Lib.hid (show ∀ w, Calls Try.prog 86 #[.agg #[.int .i64 y, .int .i64 (oM y), .int .i64 (oD y)], .int .i64 0] w (Two (oE y) 0 w) from impl_number false y (oM y) (oD y) (o_valid y h))
  clear h
  generalize oM y = m at A1 A2
  generalize oD y = d at A1 A2
  generalize oE y = n at A2
  go_enter Try.func84, Try.ntmps84
  go_wp2_with fail
  refine (A1.out _).mono ?_
  rintro e w1 ⟨rfl, hb⟩
  go_wp2_with fail
  refine (A2.out _).mono ?_
  rintro e w2 ⟨rfl, hb2⟩
  go_wp2_with fail
  go_ret
  exact ⟨rfl, hb.trans (hb2.mono hb.size)⟩

set_option maxHeartbeats 400000 in
theorem impl_keptNew (y : Int) (h : isN y) (w : World) : Calls Try.prog 114 #[.int .i64 y] w (It (nE y) w) := by
  have A1 := Lib.hid (impl_newDate y h)
  have A2 := Lib.hid (show ∀ w, Calls Try.prog 86 #[.agg #[.int .i64 y, .int .i64 (nM y), .int .i64 (nD y)], .int .i64 1] w (Two (nE y) 0 w) from impl_number true y (nM y) (nD y) (n_valid y h.y))
  clear h
  generalize nM y = m at A1 A2
  generalize nD y = d at A1 A2
  generalize nE y = n at A2
  go_enter Try.func114, Try.ntmps114
  go_wp2_with fail
  refine (A1.out _).mono ?_
  rintro e w1 ⟨rfl, hb⟩
  go_wp2_with fail
  refine (A2.out _).mono ?_
  rintro e w2 ⟨rfl, hb2⟩
  go_wp2_with fail
  go_ret
  exact ⟨rfl, hb.trans (hb2.mono hb.size)⟩

set_option maxHeartbeats 400000 in
theorem impl_OldEaster (y : Int) (w : World) : Calls Try.prog 28 #[.int .i64 y] w (Two (oldN y) (yErr y) w) := by
  by_cases hy : isY y
  · have H := Lib.hid (show oE y = oldN y ∧ 0 = yErr y by simp [oldN, yErr, hy])
    have Y := Lib.hid (impl_year_yes y hy.1 hy.2)
    have A1 := Lib.hid (impl_keptOld y hy)
    clear hy
    generalize oE y = n at A1 H
    go_enter Try.func28, Try.ntmps28
    go_wp2_with fail
    refine (Y.out _).mono ?_
    rintro e w1 ⟨rfl, rfl⟩
    go_wp2_with fail
    refine (A1.out _).mono ?_
    rintro e w1 ⟨rfl, hb⟩
    go_wp2_with fail
    go_ret2
    exact ⟨ret_ii H.out.1 H.out.2, hb⟩
  · have H := Lib.hid (show 0 = oldN y ∧ 2 = yErr y by simp [oldN, yErr, hy])
    have Y := Lib.hid (impl_year_no y hy)
    clear hy
    go_enter Try.func28, Try.ntmps28
    go_wp2_with fail
    refine (Y.out _).mono ?_
    rintro e w1 ⟨rfl, rfl⟩
    go_wp2_with fail
    go_ret2
    exact ⟨ret_ii H.out.1 H.out.2, Below.refl _ _⟩

set_option maxHeartbeats 400000 in
theorem impl_NewEaster (y : Int) (w : World) : Calls Try.prog 58 #[.int .i64 y] w (Two (newN y) (newErr y) w) := by
  by_cases hy : isN y
  · have H := Lib.hid (show nE y = newN y ∧ 0 = newErr y by simp [newN, newErr, hy])
    have A1 := Lib.hid (impl_keptNew y hy)
    obtain ⟨h1, h2⟩ := hy
    generalize nE y = n at A1 H
    go_enter Try.func58, Try.ntmps58
    go_wp2_with fail
    refine (A1.out _).mono ?_
    rintro e w1 ⟨rfl, hb⟩
    go_wp2_with fail
    go_ret2
    exact ⟨ret_ii H.out.1 H.out.2, hb⟩
  · have H := Lib.hid (show 0 = newN y ∧ 2 = newErr y by simp [newN, newErr, hy])
    by_cases h1 : 1583 ≤ y
    · have h2 : ¬ y ≤ 2000 := fun h => hy ⟨h1, h⟩
      clear hy
      go_enter Try.func58, Try.ntmps58
      go_wp2_with fail
      go_ret2
      exact ⟨ret_ii H.out.1 H.out.2, Below.refl _ _⟩
    · clear hy
      go_enter Try.func58, Try.ntmps58
      go_wp2_with fail
      go_ret2
      exact ⟨ret_ii H.out.1 H.out.2, Below.refl _ _⟩

end Go.Proofs.Ytegoiiconhgjbaa.Eas
