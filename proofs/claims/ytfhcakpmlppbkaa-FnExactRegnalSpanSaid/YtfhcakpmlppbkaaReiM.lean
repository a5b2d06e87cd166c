/- The mathematics of reigns: when a year of a reign begins, which year a day is in. -/
import Derived.Test.YtfhcakpmlppbkaaFeaN
namespace Go.Proofs.Ytfhcakpmlppbkaa.Rei
open Go.Proofs.Ytfhcakpmlppbkaa.Eas (isY cum_3)
open Go.Proofs.Ytfhcakpmlppbkaa.Fea (mlenN mlen2 ys_old yr yr_in yr_eq yr_isY yr_num)

/-- 1 in a leap year, 0 else. -/
def lv (y : Int) : Int := if Cal.lp false y then 1 else 0
theorem lv_bd (y : Int) : 0 ≤ lv y ∧ lv y ≤ 1 := by unfold lv; split <;> omega
theorem lv_mod (y : Int) : lv y = if y % 4 = 0 then 1 else 0 := by
  unfold lv Cal.lp
  simp
theorem ys_next (y : Int) : Cal.ys false (y + 1) = Cal.ys false y + 365 + lv y := Cal.ys_succ false y
/-- The place of a day in its year, its year's length apart: the place that the same date has in another year. -/
def place (y o y' : Int) : Int := if lv y = 0 then (if 59 ≤ o then o + lv y' else o) else (if o ≤ 59 then o else o - (1 - lv y'))
/-- The day on which the year k of a reign from the day f on begins. -/
def rb (f k : Int) : Int := Cal.ys false (yr f + k - 1) + place (yr f) (f - Cal.ys false (yr f)) (yr f + k - 1)
theorem place_bd (f y' : Int) : 0 ≤ place (yr f) (f - Cal.ys false (yr f)) y' ∧ place (yr f) (f - Cal.ys false (yr f)) y' < 365 + lv y' := by
  have h := yr_in f
  rw [ys_next] at h
  have a := lv_bd (yr f)
  have b := lv_bd y'
  unfold place
  repeat' split
  all_goals omega
theorem rb_in (f k : Int) : Cal.ys false (yr f + k - 1) ≤ rb f k ∧ rb f k < Cal.ys false (yr f + k) := by
  have h := place_bd f (yr f + k - 1)
  have e := ys_next (yr f + k - 1)
  rw [show yr f + k - 1 + 1 = yr f + k by omega] at e
  unfold rb
  omega
theorem rb_one (f : Int) : rb f 1 = f := by
  have h := yr_in f
  rw [ys_next] at h
  have a := lv_bd (yr f)
  unfold rb place
  rw [show yr f + 1 - 1 = yr f by omega]
  repeat' split
  all_goals omega
theorem rb_yr (f k : Int) : yr (rb f k) = yr f + k - 1 := by
  have h := rb_in f k
  exact yr_eq h.1 (by rw [show yr f + k - 1 + 1 = yr f + k by omega]; exact h.2)
theorem rb_lt (f : Int) {k k' : Int} (h : k < k') : rb f k < rb f k' := by
  have a := (rb_in f k).2
  have b := (rb_in f k').1
  have c := Cal.ys_mono false (yr f + k) (yr f + k' - 1) (by omega)
  omega
theorem rb_gap (f k : Int) : rb f k + 365 ≤ rb f (k + 1) ∧ rb f (k + 1) ≤ rb f k + 366 := by
  have e := ys_next (yr f + k - 1)
  have h := yr_in f
  rw [ys_next] at h
  have a := lv_bd (yr f)
  have b := lv_bd (yr f + k - 1)
  have c := lv_bd (yr f + k)
  have m1 := lv_mod (yr f + k - 1)
  have m2 := lv_mod (yr f + k)
  unfold rb place
  rw [show yr f + (k + 1) - 1 = yr f + k by omega, show yr f + k - 1 + 1 = yr f + k by omega] at *
  generalize lv (yr f) = v0 at *
  generalize lv (yr f + k - 1) = v1 at *
  generalize lv (yr f + k) = v2 at *
  have hv : v1 = 0 ∨ v2 = 0 := by
    revert m1 m2
    split <;> split <;> intros <;> omega
  repeat' split
  all_goals omega
set_option maxHeartbeats 2000000 in
/-- What the date k - 1 years later is. -/
theorem rb_date {y m d f : Int} (hv : Cal.valid false y m d) (hn : Cal.num false y m d = f) (k : Int) :
    (if m = 2 ∧ d = 29 ∧ Cal.lp false (y + k - 1) = false then Cal.num false (y + k - 1) 3 1 else Cal.num false (y + k - 1) m d) = rb f k := by
  have hy := yr_num hv hn
  obtain ⟨-, -, m1, m2, d1, d2⟩ := hv
  unfold rb
  rw [hy]
  have e : f = Cal.ys false y + Cal.cum false y m + d - 1 := by rw [← hn]; unfold Cal.num; omega
  subst e
  have key : ∀ z : Int, Cal.cum false z 1 = 0 ∧ Cal.cum false z 2 = 31 ∧ Cal.cum false z 3 = 59 + lv z ∧ Cal.cum false z 4 = 90 + lv z ∧ Cal.cum false z 5 = 120 + lv z ∧ Cal.cum false z 6 = 151 + lv z ∧ Cal.cum false z 7 = 181 + lv z ∧ Cal.cum false z 8 = 212 + lv z ∧ Cal.cum false z 9 = 243 + lv z ∧ Cal.cum false z 10 = 273 + lv z ∧ Cal.cum false z 11 = 304 + lv z ∧ Cal.cum false z 12 = 334 + lv z := by
    intro z
    have c1 := Cal.cum_one false z
    have c3 := cum_3 false z
    have c2 := Cal.cum_succ false z 1 (by omega)
    have c4 := Cal.cum_succ false z 3 (by omega)
    have c5 := Cal.cum_succ false z 4 (by omega)
    have c6 := Cal.cum_succ false z 5 (by omega)
    have c7 := Cal.cum_succ false z 6 (by omega)
    have c8 := Cal.cum_succ false z 7 (by omega)
    have c9 := Cal.cum_succ false z 8 (by omega)
    have c10 := Cal.cum_succ false z 9 (by omega)
    have c11 := Cal.cum_succ false z 10 (by omega)
    have c12 := Cal.cum_succ false z 11 (by omega)
    rw [mlenN _ _ _ (by omega)] at c2 c4 c5 c6 c7 c8 c9 c10 c11 c12
    simp at c2 c4 c5 c6 c7 c8 c9 c10 c11 c12
    unfold lv
    omega
  obtain ⟨a1, a2, a3, a4, a5, a6, a7, a8, a9, a10, a11, a12⟩ := key y
  obtain ⟨b1, b2, b3, b4, b5, b6, b7, b8, b9, b10, b11, b12⟩ := key (y + k - 1)
  have v0 := lv_bd y
  have v1 := lv_bd (y + k - 1)
  have hl : Cal.lp false (y + k - 1) = false ↔ lv (y + k - 1) = 0 := by unfold lv; cases Cal.lp false (y + k - 1) <;> simp
  simp only [hl]
  have hd2 : (m = 2 → d ≤ 28 + lv y) ∧ (m ≠ 2 → d ≤ 31) ∧ (m = 4 ∨ m = 6 ∨ m = 9 ∨ m = 11 → d ≤ 30) := by
    refine ⟨fun e => ?_, fun e => ?_, fun e => ?_⟩
    · subst e; rw [mlen2] at d2; exact d2
    · rw [mlenN _ _ _ e] at d2; split at d2 <;> omega
    · rw [mlenN _ _ _ (by omega), if_pos e] at d2; exact d2
  obtain ⟨hd2, hd3, hd4⟩ := hd2
  clear d2 hl key
  unfold place Cal.num
  generalize lv y = u at *
  generalize lv (y + k - 1) = u' at *
  have h : m = 1 ∨ m = 2 ∨ m = 3 ∨ m = 4 ∨ m = 5 ∨ m = 6 ∨ m = 7 ∨ m = 8 ∨ m = 9 ∨ m = 10 ∨ m = 11 ∨ m = 12 := by omega
  rcases h with rfl | rfl | rfl | rfl | rfl | rfl | rfl | rfl | rfl | rfl | rfl | rfl <;> (repeat' split) <;> omega

/-! ### the year of a day -/
/-- The day n is in the year k. -/
def RyIs (f n k : Int) : Prop := 1 ≤ k ∧ rb f k ≤ n ∧ n < rb f (k + 1)
theorem RyIs.uniq {f n k k' : Int} (h : RyIs f n k) (h' : RyIs f n k') : k = k' := by
  obtain ⟨-, a, b⟩ := h
  obtain ⟨-, a', b'⟩ := h'
  rcases Int.lt_trichotomy k k' with h | h | h
  · by_cases e : k + 1 = k'
    · subst e; omega
    · have := rb_lt f (show k + 1 < k' by omega); omega
  · exact h
  · by_cases e : k' + 1 = k
    · subst e; omega
    · have := rb_lt f (show k' + 1 < k by omega); omega
def ry (f n : Int) : Int := if n < rb f (yr n - yr f + 1) then yr n - yr f else yr n - yr f + 1
theorem yr_le {a b : Int} (h : a ≤ b) : yr a ≤ yr b := by unfold yr; omega
theorem ry_is {f n : Int} (h : f ≤ n) : RyIs f n (ry f n) := by
  have hy := yr_le h
  have r0 := yr_in n
  have r1 := rb_in f (yr n - yr f)
  have r2 := rb_in f (yr n - yr f + 1 + 1)
  rw [show yr f + (yr n - yr f) = yr n by omega] at r1
  rw [show yr f + (yr n - yr f + 1 + 1) - 1 = yr n + 1 by omega] at r2
  unfold ry
  split
  · rename_i hlt
    refine ⟨?_, by omega, hlt⟩
    by_cases k : 0 < yr n - yr f
    · omega
    · exfalso
      have e : yr n - yr f + 1 = 1 := by omega
      rw [e, rb_one] at hlt
      omega
  · rename_i hge
    exact ⟨by omega, by omega, by omega⟩
theorem ry_bd {f n : Int} (h : f ≤ n) : 1 ≤ ry f n ∧ yr n - yr f ≤ ry f n ∧ ry f n ≤ yr n - yr f + 1 := by
  have := (ry_is h).1
  unfold ry at *
  split at * <;> omega

end Go.Proofs.Ytfhcakpmlppbkaa.Rei
