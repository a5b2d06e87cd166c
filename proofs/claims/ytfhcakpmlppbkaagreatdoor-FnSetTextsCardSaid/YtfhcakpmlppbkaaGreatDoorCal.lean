/- Plain arithmetic of the two calendars: leap years, months, years and numbers of dates; no Go in it. -/
import Derived.WalkKit
namespace Go.Proofs.YtfhcakpmlppbkaaGreatDoor
namespace Cal

def lp (f : Bool) (y : Int) : Bool := if f = true ∧ y % 100 = 0 then (y % 400 == 0) else (y % 4 == 0)
def mlen (f : Bool) (y m : Int) : Int :=
  if m = 2 then (if lp f y then 29 else 28) else if m = 4 ∨ m = 6 ∨ m = 9 ∨ m = 11 then 30 else 31
def valid (f : Bool) (y m d : Int) : Prop := 1 ≤ y ∧ y ≤ 2000 ∧ 1 ≤ m ∧ m ≤ 12 ∧ 1 ≤ d ∧ d ≤ mlen f y m
instance (f : Bool) (y m d : Int) : Decidable (valid f y m d) := by unfold valid; infer_instance
def ys (f : Bool) (y : Int) : Int := if f then (y - 1) * 365 + (y - 1) / 4 + (2 - (y - 1) / 100 + (y - 1) / 400) else (y - 1) * 365 + (y - 1) / 4
def cumN (f : Bool) (y : Int) : Nat → Int
  | 0 => 0
  | k + 1 => cumN f y k + mlen f y (k + 1)
def cum (f : Bool) (y m : Int) : Int := cumN f y (m - 1).toNat
def num (f : Bool) (y m d : Int) : Int := ys f y + cum f y m + d - 1

theorem mlen_bd (f : Bool) (y m : Int) : 28 ≤ mlen f y m ∧ mlen f y m ≤ 31 := by
  unfold mlen; split <;> (try split) <;> omega

theorem cum_succ (f : Bool) (y m : Int) (h : 1 ≤ m) : cum f y (m + 1) = cum f y m + mlen f y m := by
  unfold cum
  obtain ⟨k, rfl⟩ : ∃ k : Nat, m = k + 1 := ⟨(m - 1).toNat, by omega⟩
  have h1 : ((k : Int) + 1 + 1 - 1).toNat = k + 1 := by omega
  have h2 : ((k : Int) + 1 - 1).toNat = k := by omega
  rw [h1, h2]; rfl

theorem cum_one (f : Bool) (y : Int) : cum f y 1 = 0 := rfl

theorem cum_13 (f : Bool) (y : Int) : cum f y 13 = 365 + (if lp f y then 1 else 0) := by
  have : cum f y 13 = cumN f y 12 := rfl
  rw [this]
  simp only [cumN]
  unfold mlen
  simp
  split <;> omega

theorem ys_succ (f : Bool) (y : Int) : ys f (y + 1) = ys f y + 365 + (if lp f y then 1 else 0) := by
  unfold ys lp
  cases f <;> simp <;> (repeat split) <;> omega

theorem cumN_mono (f : Bool) (y : Int) (a b : Nat) (h : a ≤ b) : cumN f y a + 28 * (b - a : Nat) ≤ cumN f y b := by
  induction b with
  | zero => have : a = 0 := by omega
            subst this; simp
  | succ b ih =>
    by_cases hb : a = b + 1
    · subst hb; simp
    · have := ih (by omega)
      have m := mlen_bd f y (b + 1)
      have e : cumN f y (b + 1) = cumN f y b + mlen f y (b + 1) := rfl
      rw [e]; omega

theorem cum_mono (f : Bool) (y a b : Int) (h1 : 1 ≤ a) (h : a ≤ b) : cum f y a + 28 * (b - a) ≤ cum f y b := by
  unfold cum
  have := cumN_mono f y (a - 1).toNat (b - 1).toNat (by omega)
  omega

theorem cum_nonneg (f : Bool) (y m : Int) (h1 : 1 ≤ m) : 0 ≤ cum f y m := by
  have := cum_mono f y 1 m (by omega) h1
  rw [cum_one] at this; omega

theorem ys_mono (f : Bool) (a b : Int) (h : a ≤ b) : ys f a + 365 * (b - a) ≤ ys f b := by
  obtain ⟨k, rfl⟩ : ∃ k : Nat, b = a + k := ⟨(b - a).toNat, by omega⟩
  clear h
  induction k with
  | zero => simp
  | succ k ih =>
    have := ys_succ f (a + k)
    have e : a + ((k + 1 : Nat) : Int) = a + k + 1 := by omega
    rw [e, this]
    split <;> omega

theorem ys_1 (f : Bool) : ys f 1 = if f then 2 else 0 := by cases f <;> rfl
theorem ys_2001 (f : Bool) : ys f 2001 = if f then 730487 else 730500 := by cases f <;> rfl

theorem ys_bd (f : Bool) (y : Int) (h1 : 1 ≤ y) (h2 : y ≤ 2001) : 0 ≤ ys f y ∧ ys f y ≤ 730500 := by
  have a := ys_mono f 1 y h1
  have b := ys_mono f y 2001 h2
  rw [ys_1] at a; rw [ys_2001] at b
  cases f <;> simp at a b <;> omega

theorem cum_bd (f : Bool) (y m : Int) (h1 : 1 ≤ m) (h2 : m ≤ 13) : 0 ≤ cum f y m ∧ cum f y m + 28 * (13 - m) ≤ 366 := by
  refine ⟨cum_nonneg f y m h1, ?_⟩
  have := cum_mono f y m 13 h1 h2
  rw [cum_13] at this
  split at this <;> omega

/-- within a year a date's number lies in the year. -/
theorem num_in (f : Bool) {y m d : Int} (h : valid f y m d) : ys f y ≤ num f y m d ∧ num f y m d < ys f (y + 1) := by
  obtain ⟨h1, h2, h3, h4, h5, h6⟩ := h
  unfold num
  have a := cum_bd f y m h3 (by omega)
  refine ⟨by omega, ?_⟩
  have b := cum_succ f y m h3
  have c := cum_mono f y (m + 1) 13 (by omega) (by omega)
  rw [ys_succ]; rw [cum_13] at c
  omega

theorem num_range (f : Bool) {y m d : Int} (h : valid f y m d) : ys f 1 ≤ num f y m d ∧ num f y m d < ys f 2001 := by
  have a := num_in f h
  have b := ys_mono f 1 y h.1
  have c := ys_mono f (y + 1) 2001 (by have := h.2.1; omega)
  have h2 := h.1
  have h3 := h.2.1
  omega

theorem num_inj (f : Bool) {y m d y' m' d' : Int} (h : valid f y m d) (h' : valid f y' m' d') (e : num f y m d = num f y' m' d') : y = y' ∧ m = m' ∧ d = d' := by
  have a := num_in f h
  have a' := num_in f h'
  have hy : y = y' := by
    rcases Int.lt_trichotomy y y' with l | l | l
    · have := ys_mono f (y + 1) y' (by omega); omega
    · exact l
    · have := ys_mono f (y' + 1) y (by omega); omega
  subst hy
  obtain ⟨_, _, h3, h4, h5, h6⟩ := h
  obtain ⟨_, _, k3, k4, k5, k6⟩ := h'
  unfold num at e
  have hm : m = m' := by
    rcases Int.lt_trichotomy m m' with l | l | l
    · have := cum_mono f y (m + 1) m' (by omega) (by omega)
      have := cum_succ f y m h3; omega
    · exact l
    · have := cum_mono f y (m' + 1) m (by omega) (by omega)
      have := cum_succ f y m' k3; omega
  subst hm
  exact ⟨rfl, rfl, by omega⟩

end Cal
namespace Cal
theorem guess_lo (f : Bool) (n : Int) (h1 : ys f 1 ≤ n) : ys f (1 + (n - ys f 1) * 4 / 1461) ≤ n := by
  rw [ys_1] at *
  unfold ys
  cases f <;> simp at * <;> omega
theorem guess_hi (f : Bool) (n : Int) (h1 : ys f 1 ≤ n) (h2 : n < ys f 2001) : n < ys f (1 + (n - ys f 1) * 4 / 1461 + 2) := by
  rw [ys_2001] at h2
  rw [ys_1] at *
  unfold ys
  cases f <;> simp at * <;> omega
theorem guess_bd (f : Bool) (n : Int) (h1 : ys f 1 ≤ n) (h2 : n < ys f 2001) : 1 ≤ 1 + (n - ys f 1) * 4 / 1461 ∧ 1 + (n - ys f 1) * 4 / 1461 ≤ 2000 := by
  rw [ys_2001] at h2
  rw [ys_1] at *
  cases f <;> simp at * <;> omega
theorem sguess_lo (f : Bool) (n : Int) (h1 : ys f 1 ≤ n) : ys f ((n - ys f 1) / 366 + 1) ≤ n := by
  rw [ys_1] at *
  unfold ys
  cases f <;> simp at * <;> omega
theorem sguess_bd (f : Bool) (n : Int) (h1 : ys f 1 ≤ n) (h2 : n ≤ 730499) : 1 ≤ (n - ys f 1) / 366 + 1 ∧ (n - ys f 1) / 366 + 1 ≤ 2000 := by
  rw [ys_1] at *
  cases f <;> simp at * <;> omega
end Cal
end Go.Proofs.YtfhcakpmlppbkaaGreatDoor
