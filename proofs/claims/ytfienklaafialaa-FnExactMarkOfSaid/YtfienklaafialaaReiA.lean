/- Contracts of spec's names and reigns: l01Name, l07Reign, the beginning of a year, the year of a day, its span. -/
import Derived.Test.YtfienklaafialaaReiM
import Derived.Test.YtfienklaafialaaFeaB
namespace Go.Proofs.Ytfienklaafialaa.Rei
open Go.RowKit
open Go.Proofs.Ytfienklaafialaa.Eas (isY It)
open Go.Proofs.Ytfienklaafialaa.Fea (yr yr_isY spec_oldOf SDate.year isDay spec_day_yes spec_day_no)

theorem ys_far (y : Int) (h1 : 1 ≤ y) (h2 : y ≤ 9000) : 0 ≤ Cal.ys false y ∧ Cal.ys false y ≤ 3300000 := by
  rw [Fea.ys_old]
  omega
set_option maxHeartbeats 400000 in
theorem spec_number_far (y m d : Int) (y1 : 1 ≤ y) (y2 : y ≤ 9000) (m1 : 1 ≤ m) (m2 : m ≤ 13) (d1 : -1000 ≤ d) (d2 : d ≤ 1000000) (w : World) :
    Calls Try.prog 51 #[.agg #[.int .i64 y, .int .i64 m, .int .i64 d], .bool false] w (It (Cal.num false y m d) w) := by
  have hh := Lib.hid (show 365 * (y - 1) + (y - 1) / 4 + d - 1 = Cal.ys false y + d - 1 + Cal.cum false y 1 by rw [Cal.cum_one]; simp [Cal.ys]; omega)
  have yb := ys_far y y1 y2
  go_enter Try.func51, Try.ntmps51
  go_wp2_with fail
  go_loop [6, 7] (fun s k => ∃ j : Int, 1 ≤ j ∧ j ≤ m ∧ k = .int .i64 j ∧ s = .int .i64 (Cal.ys false y + d - 1 + Cal.cum false y j)) (fun _ k => (m - intOf k).toNat)
  case atStart => exact ⟨1, by omega, by omega, rfl, by rw [hh.out]⟩
  case round =>
    obtain ⟨j, hj1, hj2, rfl, rfl⟩ := hrel
    have cb := Cal.cum_bd false y j hj1 (by omega)
    have ml := Cal.mlen_bd false y j
    have cs := Lib.hid (Cal.cum_succ false y j hj1)
    by_cases hlt : j < m
    · go_wp2_with (go_at_call 81; refine (spec_mlen false y j (by omega) _).mono ?_; rintro e w2 ⟨rfl, rfl⟩)
      go_round
      case rel => exact ⟨j + 1, by omega, by omega, rfl, by rw [cs.out]; go_num⟩
      case measure => simp [intOf]; omega
    · have hm := Lib.hid (show j = m by omega)
      go_wp2_with fail
      go_ret
      exact ⟨ret_int (by rw [hm.out]; unfold Cal.num; omega), (Below.refl _ _).alloc (Nat.le_refl _) _⟩

end Go.Proofs.Ytfienklaafialaa.Rei
