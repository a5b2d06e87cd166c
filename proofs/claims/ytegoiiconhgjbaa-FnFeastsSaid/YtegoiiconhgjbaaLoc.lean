/- The local dates of a place that changed from the old to the new calendar on a day: the mathematics. -/
import Derived.Test.YtegoiiconhgjbaaCal
namespace Go.Proofs.Ytegoiiconhgjbaa
namespace Loc
open Cal

/-- A valid calendar of a place. -/
def isCal (R : Int) : Prop := (200000 ≤ R ∧ R ≤ 730486) ∨ R = 730500
instance (R : Int) : Decidable (isCal R) := by unfold isCal; infer_instance
/-- A date that is old or new. -/
def isD (y m d : Int) : Prop := valid false y m d ∨ valid true y m d
instance (y m d : Int) : Decidable (isD y m d) := by unfold isD; infer_instance
/-- A local date. -/
def isL (R y m d : Int) : Prop := (valid false y m d ∧ num false y m d < R) ∨ (valid true y m d ∧ R ≤ num true y m d)
instance (R y m d : Int) : Decidable (isL R y m d) := by unfold isL; infer_instance
/-- The number of a local date. -/
def lnum (R y m d : Int) : Int := if valid false y m d ∧ num false y m d < R then num false y m d else if valid true y m d ∧ R ≤ num true y m d then num true y m d else 0

/-- The answers of LocalDay and IsLocal. -/
def dNum (R y m d : Int) : Int := if isCal R ∧ isD y m d then lnum R y m d else 0
def dErr (R y m d : Int) : Int := if isCal R ∧ isD y m d then (if isL R y m d then 0 else 4) else 1
def lB (R y m d : Int) : Bool := decide (isCal R ∧ isD y m d ∧ isL R y m d)
def lErr (R y m d : Int) : Int := if isCal R ∧ isD y m d then 0 else 1

theorem mlen_le (y m : Int) : mlen true y m ≤ mlen false y m := by
  unfold mlen lp
  simp
  repeat' split
  all_goals omega

theorem old_of_new {y m d : Int} (h : valid true y m d) : valid false y m d := by
  obtain ⟨h1, h2, h3, h4, h5, h6⟩ := h
  have := mlen_le y m
  exact ⟨h1, h2, h3, h4, h5, by omega⟩

theorem isD_iff (y m d : Int) : isD y m d ↔ valid false y m d := ⟨fun h => h.elim id old_of_new, Or.inl⟩

theorem mlen_ne {y m : Int} (h : m ≠ 2) : mlen false y m = mlen true y m := by
  unfold mlen
  simp [h]

theorem cumN_diff (y : Int) (k : Nat) : cumN false y k = cumN true y k ∨ (2 ≤ k ∧ cumN false y k = cumN true y k + 1) := by
  induction k with
  | zero => exact .inl rfl
  | succ k ih =>
    have e1 : cumN false y (k + 1) = cumN false y k + mlen false y (k + 1) := rfl
    have e2 : cumN true y (k + 1) = cumN true y k + mlen true y (k + 1) := rfl
    by_cases h2 : k = 1
    · subst h2
      have h3 : mlen false y ((1 : Nat) + 1) = mlen true y ((1 : Nat) + 1) ∨ mlen false y ((1 : Nat) + 1) = mlen true y ((1 : Nat) + 1) + 1 := by
        unfold mlen lp
        simp
        repeat' split
        all_goals omega
      rcases ih with ih | ⟨ih, _⟩
      · rcases h3 with h3 | h3
        · exact .inl (by rw [e1, e2, h3, ih])
        · exact .inr ⟨by omega, by rw [e1, e2, h3, ih]; omega⟩
      · omega
    · have h3 : mlen false y (k + 1) = mlen true y (k + 1) := mlen_ne (by omega)
      rcases ih with ih | ⟨ih, ih2⟩
      · exact .inl (by rw [e1, e2, h3, ih])
      · exact .inr ⟨by omega, by rw [e1, e2, h3, ih2]; omega⟩

/-- From the first reform on the new date of a day is ahead of its old one, by at most fourteen days. -/
theorem ahead {y m d : Int} (h : valid true y m d) (hn : 200000 ≤ num true y m d) : num true y m d + 1 ≤ num false y m d ∧ num false y m d ≤ num true y m d + 14 := by
  have h1 := num_in true h
  obtain ⟨y1, y2, m1, m2, d1, d2⟩ := h
  have e : num true y m d = ys true y + cum true y m + d - 1 := rfl
  have e' : num false y m d = ys false y + cum false y m + d - 1 := rfl
  have hy : 547 ≤ y := by
    apply Classical.byContradiction
    intro hy
    have a := ys_mono true (y + 1) 547 (by omega)
    have b : ys true 547 = 199424 := by decide
    omega
  have k1 : ys true y = (y - 1) * 365 + (y - 1) / 4 + (2 - (y - 1) / 100 + (y - 1) / 400) := rfl
  have k2 : ys false y = (y - 1) * 365 + (y - 1) / 4 := rfl
  have c : cum false y m = cum true y m ∨ (2 ≤ (m - 1).toNat ∧ cum false y m = cum true y m + 1) := cumN_diff y (m - 1).toNat
  omega

/-- What LocalDate answers. -/
def DateIs (R n y m d c : Int) : Prop :=
  (¬ isCal R ∧ c = 1 ∧ y = 0 ∧ m = 0 ∧ d = 0) ∨ (isCal R ∧ ¬ (0 ≤ n ∧ n ≤ 730499) ∧ c = 2 ∧ y = 0 ∧ m = 0 ∧ d = 0) ∨
  (isCal R ∧ 0 ≤ n ∧ n ≤ 730499 ∧ n < R ∧ c = 0 ∧ valid false y m d ∧ num false y m d = n) ∨
  (isCal R ∧ R ≤ n ∧ n ≤ 730486 ∧ c = 0 ∧ valid true y m d ∧ num true y m d = n) ∨
  (isCal R ∧ R ≤ n ∧ 730487 ≤ n ∧ n ≤ 730499 ∧ c = 4 ∧ y = 0 ∧ m = 0 ∧ d = 0)

theorem isCal_bd {R : Int} (h : isCal R) : 200000 ≤ R ∧ R ≤ 730500 := by rcases h with h | h <;> omega

theorem DateIs.uniq {R n y m d c y' m' d' c' : Int} (h : DateIs R n y m d c) (h' : DateIs R n y' m' d' c') : y = y' ∧ m = m' ∧ d = d' ∧ c = c' := by
  rcases h with ⟨a, rfl, rfl, rfl, rfl⟩ | ⟨a, b, rfl, rfl, rfl, rfl⟩ | ⟨a, b1, b2, b3, rfl, v, hn⟩ | ⟨a, b1, b2, rfl, v, hn⟩ | ⟨a, b1, b2, b3, rfl, rfl, rfl, rfl⟩ <;>
  rcases h' with ⟨a', rfl, rfl, rfl, rfl⟩ | ⟨a', b', rfl, rfl, rfl, rfl⟩ | ⟨a', b1', b2', b3', rfl, v', hn'⟩ | ⟨a', b1', b2', rfl, v', hn'⟩ | ⟨a', b1', b2', b3', rfl, rfl, rfl, rfl⟩ <;>
  first
    | exact ⟨rfl, rfl, rfl, rfl⟩
    | exact absurd a' a
    | exact absurd a a'
    | (exfalso; have := isCal_bd a; omega)
    | (obtain ⟨e1, e2, e3⟩ := num_inj _ v v' (hn.trans hn'.symm); exact ⟨e1, e2, e3, rfl⟩)

/-- A day's local date has the day as its number. -/
theorem day_of_date {R n y m d : Int} (h : DateIs R n y m d 0) : isCal R ∧ isD y m d ∧ isL R y m d ∧ lnum R y m d = n := by
  rcases h with ⟨_, h, _⟩ | ⟨_, _, h, _⟩ | ⟨a, b1, b2, b3, _, v, hn⟩ | ⟨a, b1, b2, _, v, hn⟩ | ⟨_, _, _, _, h, _⟩
  · omega
  · omega
  · have hl : valid false y m d ∧ num false y m d < R := ⟨v, by omega⟩
    exact ⟨a, .inl v, .inl hl, by unfold lnum; rw [if_pos hl]; exact hn⟩
  · have hR := isCal_bd a
    have hh := ahead v (by omega)
    have hl : valid true y m d ∧ R ≤ num true y m d := ⟨v, by omega⟩
    have hl' : ¬ (valid false y m d ∧ num false y m d < R) := fun h => by have := h.2; omega
    exact ⟨a, .inr v, .inr hl, by unfold lnum; rw [if_neg hl', if_pos hl]; exact hn⟩
  · omega

/-- The date of a local date's number is that date. -/
theorem date_of_day {R y m d : Int} (a : isCal R) (h : isL R y m d) : DateIs R (lnum R y m d) y m d 0 := by
  have hR := isCal_bd a
  by_cases hl : valid false y m d ∧ num false y m d < R
  · have e : lnum R y m d = num false y m d := by unfold lnum; rw [if_pos hl]
    have r := num_range false hl.1
    rw [ys_1, ys_2001] at r
    simp at r
    rw [e]
    exact .inr (.inr (.inl ⟨a, by omega, by omega, hl.2, rfl, hl.1, rfl⟩))
  · have hl' : valid true y m d ∧ R ≤ num true y m d := h.resolve_left hl
    have e : lnum R y m d = num true y m d := by unfold lnum; rw [if_neg hl, if_pos hl']
    have r := num_range true hl'.1
    rw [ys_1, ys_2001] at r
    simp at r
    rw [e]
    exact .inr (.inr (.inr (.inl ⟨a, hl'.2, by omega, rfl, hl'.1, rfl⟩)))

/-- What SkippedDates answers. -/
def SkIs (R s c : Int) : Prop :=
  (¬ isCal R ∧ s = 0 ∧ c = 1) ∨ (R = 730500 ∧ s = 0 ∧ c = 4) ∨
  (200000 ≤ R ∧ R ≤ 730486 ∧ c = 0 ∧ ∃ y m d, valid true y m d ∧ num true y m d = R ∧ s = num false y m d - R)

theorem SkIs.uniq {R s c s' c' : Int} (h : SkIs R s c) (h' : SkIs R s' c') : s = s' ∧ c = c' := by
  rcases h with ⟨a, rfl, rfl⟩ | ⟨a, rfl, rfl⟩ | ⟨a, b, rfl, y, m, d, v, hn, rfl⟩ <;>
  rcases h' with ⟨a', rfl, rfl⟩ | ⟨a', rfl, rfl⟩ | ⟨a', b', rfl, y', m', d', v', hn', rfl⟩ <;>
  first
    | exact ⟨rfl, rfl⟩
    | (exfalso; omega)
    | (exfalso; simp only [isCal] at *; omega)
    | (obtain ⟨e1, e2, e3⟩ := num_inj true v v' (hn.trans hn'.symm); subst e1 e2 e3; exact ⟨rfl, rfl⟩)

theorem SkIs.bd {R s c : Int} (h : SkIs R s c) : (c = 0 ∧ 1 ≤ s ∧ s ≤ 14) ∨ c = 1 ∨ c = 4 := by
  rcases h with ⟨a, rfl, rfl⟩ | ⟨a, rfl, rfl⟩ | ⟨a, b, rfl, y, m, d, v, hn, rfl⟩
  · exact .inr (.inl rfl)
  · exact .inr (.inr rfl)
  · have := ahead v (by omega)
    exact .inl ⟨rfl, by omega, by omega⟩

/-- How many days of a place have a local date with a year, and the answer of DaysOfYear. -/
def ylen (R y : Int) : Int := (min (ys false (y + 1)) R - min (ys false y) R) + (max (ys true (y + 1)) R - max (ys true y) R)
def yNum (R y : Int) : Int := if isCal R ∧ 1 ≤ y ∧ y ≤ 2000 then ylen R y else 0
def yErr (R y : Int) : Int := if isCal R then (if 1 ≤ y ∧ y ≤ 2000 then 0 else 2) else 1

/-- How many of the days before n have a local date with the year y. -/
def cnt (R y n : Int) : Int := (min n (min R (ys false (y + 1))) - min n (min R (ys false y))) + (min n (max R (ys true (y + 1))) - min n (max R (ys true y)))

/-- The year of a day's local date is y. -/
def inY (R y n : Int) : Prop := if n < R then ys false y ≤ n ∧ n < ys false (y + 1) else ys true y ≤ n ∧ n < ys true (y + 1)
instance (R y n : Int) : Decidable (inY R y n) := by unfold inY; infer_instance

theorem ys_near (y : Int) (h1 : 1 ≤ y) (h2 : y ≤ 2001) : ys false y - 13 ≤ ys true y ∧ ys true y ≤ ys false y + 2 ∧ (401 ≤ y → ys true y ≤ ys false y) := by
  have k1 : ys true y = (y - 1) * 365 + (y - 1) / 4 + (2 - (y - 1) / 100 + (y - 1) / 400) := rfl
  have k2 : ys false y = (y - 1) * 365 + (y - 1) / 4 := rfl
  omega

theorem ys_len (f : Bool) (y : Int) : ys f y + 365 ≤ ys f (y + 1) ∧ ys f (y + 1) ≤ ys f y + 366 := by
  have := ys_succ f y
  split at this <;> omega

theorem cnt_step (R y n : Int) : cnt R y (n + 1) = cnt R y n + (if inY R y n then 1 else 0) := by
  have a := ys_len false y
  have b := ys_len true y
  unfold cnt inY
  by_cases h : n < R
  · simp only [h, if_true]
    split <;> omega
  · simp only [h, if_false]
    split <;> omega

theorem cnt_lo (R y n : Int) (h1 : n ≤ ys false y) (h2 : n ≤ ys true y) : cnt R y n = 0 := by
  have a := ys_len false y
  have b := ys_len true y
  unfold cnt
  omega

theorem cnt_hi (R y n : Int) (h1 : ys false (y + 1) ≤ n) (h2 : ys true (y + 1) ≤ n) : cnt R y n = ylen R y := by
  have a := ys_len false y
  have b := ys_len true y
  unfold cnt ylen
  omega

theorem cnt_bd (R y n : Int) : 0 ≤ cnt R y n ∧ cnt R y n ≤ 732 := by
  have a := ys_len false y
  have b := ys_len true y
  unfold cnt
  omega

theorem ylen_bd (R y : Int) (h : isCal R) (h1 : 1 ≤ y) (h2 : y ≤ 2000) : 0 ≤ ylen R y ∧ ylen R y ≤ 366 := by
  have a := ys_len false y
  have b := ys_len true y
  have c := ys_near y h1 (by omega)
  have c' := ys_near (y + 1) (by omega) (by omega)
  have hR := isCal_bd h
  unfold ylen
  by_cases hy : 401 ≤ y
  · have e := c.2.2 hy
    have e' := c'.2.2 (by omega)
    omega
  · have e := ys_mono false (y + 1) 401 (by omega)
    have e2 : ys false 401 = 146100 := by decide
    omega

theorem ylen_old (y : Int) (h1 : 1 ≤ y) (h2 : y ≤ 2000) : ylen 730500 y = ys false (y + 1) - ys false y := by
  have a := ys_bd false y h1 (by omega)
  have b := ys_bd false (y + 1) (by omega) (by omega)
  have c := ys_bd true y h1 (by omega)
  have d := ys_bd true (y + 1) (by omega) (by omega)
  unfold ylen
  omega

/-- The year of a date is that of its day. -/
theorem year_iff (f : Bool) {y m d : Int} (h : valid f y m d) (x : Int) : y = x ↔ ys f x ≤ num f y m d ∧ num f y m d < ys f (x + 1) := by
  have a := num_in f h
  constructor
  · rintro rfl; exact a
  · intro hx
    rcases Int.lt_trichotomy y x with l | l | l
    · have := ys_mono f (y + 1) x (by omega); omega
    · exact l
    · have := ys_mono f (x + 1) y (by omega); omega

/-- The answer of SameDay. -/
def sB (R y m d R' y' m' d' : Int) : Bool := decide (isCal R ∧ isD y m d ∧ isCal R' ∧ isD y' m' d' ∧ isL R y m d ∧ isL R' y' m' d' ∧ lnum R y m d = lnum R' y' m' d')
def sErr (R y m d R' y' m' d' : Int) : Int := if isCal R ∧ isD y m d ∧ isCal R' ∧ isD y' m' d' then (if isL R y m d ∧ isL R' y' m' d' then 0 else 4) else 1
end Loc
end Go.Proofs.Ytegoiiconhgjbaa
