/- Contract of impl's yearsLater: the day on which a year of a reign begins. -/
import Derived.Test.YtfhcakpmlppbkaaReiIa
import Derived.Test.YtfhcakpmlppbkaaEasA
namespace Go.Proofs.Ytfhcakpmlppbkaa.Rei
open Go.RowKit
open Go.Proofs.Ytfhcakpmlppbkaa.Eas (It impl_oldDayOf)
open Go.Proofs.Ytfhcakpmlppbkaa.Fea (isDay yr yr_isY yr_num)

/-- What impl's years give: the span of a year against MaxDay + 1. -/
theorem rb_far {f k : Int} (h : Fea.yr f + k - 1 > 2000) : 730500 ≤ rb f k := by
  have g := (rb_in f k).1
  have m := Cal.ys_mono false 2001 (Fea.yr f + k - 1) (by omega)
  rw [Cal.ys_2001] at m
  simp at m
  omega

/-- The day on which the year k begins, or the day behind all days. -/
def nb (f k : Int) : Int := if yr f + k - 1 ≤ 2000 then rb f k else 730500
theorem nb_le {f k t : Int} (ht : t ≤ 730499) : nb f k ≤ t ↔ (yr f + k - 1 ≤ 2000 ∧ rb f k ≤ t) := by
  unfold nb
  split
  · rename_i h
    exact ⟨fun q => ⟨h, q⟩, fun q => q.2⟩
  · rename_i h
    exact ⟨fun q => absurd q (by omega), fun q => absurd q.1 h⟩
theorem nb_min {f k t : Int} (ht : t ≤ 730499) : min (nb f k - 1) t = min (rb f k - 1) t := by
  unfold nb
  split
  · rfl
  · rename_i h
    have := rb_far (show yr f + k - 1 > 2000 by omega)
    omega
theorem valid_later {y m d j : Int} (hv : Cal.valid false y m d) (j0 : 0 ≤ j) (j1 : j ≤ 2000 - y) (h : ¬ (m = 2 ∧ d = 29 ∧ Cal.lp false (y + j) = false)) : Cal.valid false (y + j) m d := by
  obtain ⟨y1, y2, m1, m2, d1, d2⟩ := hv
  refine ⟨by omega, by omega, m1, m2, d1, ?_⟩
  by_cases hm : m = 2
  · subst hm
    rw [Fea.mlen2] at d2 ⊢
    by_cases hd : d = 29
    · subst hd
      have hl : Cal.lp false (y + j) = true := by
        cases e : Cal.lp false (y + j)
        · exact absurd ⟨rfl, rfl, e⟩ h
        · rfl
      rw [hl]
      simp
    · split at d2 <;> split <;> omega
  · rw [Fea.mlenN _ _ _ hm] at d2 ⊢
    exact d2
theorem not_later {y j : Int} (h : Cal.lp false (y + j) = false) : ¬ Cal.valid false (y + j) 2 29 := by
  rintro ⟨-, -, -, -, -, d2⟩
  rw [Fea.mlen2, h] at d2
  simp at d2

set_option maxHeartbeats 1000000 in
theorem impl_later {y m d f : Int} (hv : Cal.valid false y m d) (hn : Cal.num false y m d = f) (j : Int) (j0 : 0 ≤ j) (j1 : j ≤ 9223372036854775807) (x : Int) (hx : nb f (j + 1) = x) (w : World) :
    Calls Try.prog 79 #[.agg #[.int .i64 y, .int .i64 m, .int .i64 d], .int .i64 j] w (It x w) := by
  have hy := yr_num hv hn
  have hd := rb_date hv hn (j + 1)
  rw [show y + (j + 1) - 1 = y + j by omega] at hd
  unfold nb at hx
  rw [hy, show y + (j + 1) - 1 = y + j by omega] at hx
  have S0 := (St.start w).alloc 93 #[.int .i64 y, .int .i64 m, .int .i64 d]
  have S1 := (St.start w).alloc 93 #[.int .i64 (y + j), .int .i64 m, .int .i64 d]
  have y1 := hv.1
  have y2 := hv.2.1
  by_cases hj : j ≤ 2000 - y
  · have hgo : decide (2000 - y < j) = false := by simp; omega
    rw [if_pos (by omega)] at hx
    rw [hx] at hd
    by_cases hc : m = 2 ∧ d = 29 ∧ Cal.lp false (y + j) = false
    · rw [if_pos hc] at hd
      obtain ⟨rfl, rfl, hl⟩ := hc
      have V := Lib.hid (show ∀ w, Calls Try.prog 90 #[.agg #[.int .i64 (y + j), .int .i64 2, .int .i64 29], .int .i64 0] w fun e w' => e = .returned (.bool false) ∧ Below w.heap.size w w' from
        fun w => vb_false (not_later hl) ▸ impl_isIn false (y + j) 2 29 w)
      have O := Lib.hid (impl_oldDayOf (y + j) 3 1 (show Cal.valid false (y + j) 3 1 from ⟨by omega, by omega, by omega, by omega, by omega, by rw [Fea.mlenN _ _ _ (by omega)]; simp⟩))
      rw [hd] at O
      clear hv hn hd hl hx hy
      go_enter Try.func79, Try.ntmps79
      go_wp2_with fail
      refine (V.out _).mono ?_
      rintro e w1 ⟨rfl, hb1⟩
      have S := S1.call hb1
      have c0 := S.b0.cell 0
      have c1 := S.b0.cell 1
      have c2 := S.b0.cell 2
      have z1 := S.b0.frozen 1
      have z2 := S.b0.frozen 2
      simp at c0 c1 c2
      have hb3 := (S.bel.setCell (p := ⟨w.heap.size, 1, none⟩) (Nat.le_refl _) (.int .i64 3)).setCell (p := ⟨w.heap.size, 2, none⟩) (Nat.le_refl _) (.int .i64 1)
      clear V S0 S1 S
      go_wp2_with fail
      refine (O.out _).mono ?_
      rintro e w2 ⟨rfl, hb2⟩
      go_wp2_with fail
      go_ret
      exact ⟨rfl, hb3.trans (hb2.mono hb3.size)⟩
    · rw [if_neg hc] at hd
      have hv2 := valid_later hv j0 hj hc
      have V := Lib.hid (show ∀ w, Calls Try.prog 90 #[.agg #[.int .i64 (y + j), .int .i64 m, .int .i64 d], .int .i64 0] w fun e w' => e = .returned (.bool true) ∧ Below w.heap.size w w' from
        fun w => (show vb false (y + j) m d = true from decide_eq_true hv2) ▸ impl_isIn false (y + j) m d w)
      have O := Lib.hid (impl_oldDayOf (y + j) m d hv2)
      rw [hd] at O
      clear hv hn hd hx hy hc hv2
      go_enter Try.func79, Try.ntmps79
      go_wp2_with fail
      refine (V.out _).mono ?_
      rintro e w1 ⟨rfl, hb1⟩
      have S := S1.call hb1
      have c0 := S.b0.cell 0
      have c1 := S.b0.cell 1
      have c2 := S.b0.cell 2
      simp at c0 c1 c2
      have hb3 := S.bel
      clear V S0 S1 S
      go_wp2_with fail
      refine (O.out _).mono ?_
      rintro e w2 ⟨rfl, hb2⟩
      go_wp2_with fail
      go_ret
      exact ⟨rfl, hb3.trans (hb2.mono hb3.size)⟩
  · have hgo : decide (2000 - y < j) = true := by simp; omega
    rw [if_neg (by omega)] at hx
    subst hx
    have hb := S0.bel
    clear hv hn hd S0 S1 hy
    go_enter Try.func79, Try.ntmps79
    go_wp2_with fail
    go_ret
    exact ⟨rfl, hb⟩

end Go.Proofs.Ytfhcakpmlppbkaa.Rei
