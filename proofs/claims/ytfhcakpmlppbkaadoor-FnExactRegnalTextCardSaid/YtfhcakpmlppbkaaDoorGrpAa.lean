/- Texts of a claim in one file: Cal EasM. -/
import Derived.WalkKit
namespace Go.Proofs.YtfhcakpmlppbkaaDoor
namespace Cal

def lp (f : Bool) (y : Int) : Bool := if f = true ∧ y % 100 = 0 then (y % 400 == 0) else (y % 4 == 0)
def mlen (f : Bool) (y m : Int) : Int :=
  if m = 2 then (if lp f y then 29 else 28) else if m = 4 ∨ m = 6 ∨ m = 9 ∨ m = 11 then 30 else 31
def valid (f : Bool) (y m d : Int) : Prop := 1 ≤ y ∧ y ≤ 2000 ∧ 1 ≤ m ∧ m ≤ 12 ∧ 1 ≤ d ∧ d ≤ mlen f y m
instance (f : Bool) (y m d : Int) : Decidable (valid f y m d) := by unfold valid; infer_instance
def ys (f : Bool) (y : Int) : Int := if f then (y - 1) * 365 + (y - 1) / 4 + (2 - (y - 1) / 100 + (y - 1) / 400) else (y - 1) * 365 + (y - 1) / 4
def cumN (f : Bool) (y : Int) : Nat → Int
  | 0 => 0
  | k + 1 => cumN f y k + mlen f y (k + 1)
def cum (f : Bool) (y m : Int) : Int := cumN f y (m - 1).toNat
def num (f : Bool) (y m d : Int) : Int := ys f y + cum f y m + d - 1

theorem mlen_bd (f : Bool) (y m : Int) : 28 ≤ mlen f y m ∧ mlen f y m ≤ 31 := by
  unfold mlen; split <;> (try split) <;> omega

theorem cum_succ (f : Bool) (y m : Int) (h : 1 ≤ m) : cum f y (m + 1) = cum f y m + mlen f y m := by
  unfold cum
  obtain ⟨k, rfl⟩ : ∃ k : Nat, m = k + 1 := ⟨(m - 1).toNat, by omega⟩
  have h1 : ((k : Int) + 1 + 1 - 1).toNat = k + 1 := by omega
  have h2 : ((k : Int) + 1 - 1).toNat = k := by omega
  rw [h1, h2]; rfl

theorem cum_one (f : Bool) (y : Int) : cum f y 1 = 0 := rfl

theorem cum_13 (f : Bool) (y : Int) : cum f y 13 = 365 + (if lp f y then 1 else 0) := by
  have : cum f y 13 = cumN f y 12 := rfl
  rw [this]
  simp only [cumN]
  unfold mlen
  simp
  split <;> omega

theorem ys_succ (f : Bool) (y : Int) : ys f (y + 1) = ys f y + 365 + (if lp f y then 1 else 0) := by
  unfold ys lp
  cases f <;> simp <;> (repeat split) <;> omega

theorem cumN_mono (f : Bool) (y : Int) (a b : Nat) (h : a ≤ b) : cumN f y a + 28 * (b - a : Nat) ≤ cumN f y b := by
  induction b with
  | zero => have : a = 0 := by omega
            subst this; simp
  | succ b ih =>
    by_cases hb : a = b + 1
    · subst hb; simp
    · have := ih (by omega)
      have m := mlen_bd f y (b + 1)
      have e : cumN f y (b + 1) = cumN f y b + mlen f y (b + 1) := rfl
      rw [e]; omega

theorem cum_mono (f : Bool) (y a b : Int) (h1 : 1 ≤ a) (h : a ≤ b) : cum f y a + 28 * (b - a) ≤ cum f y b := by
  unfold cum
  have := cumN_mono f y (a - 1).toNat (b - 1).toNat (by omega)
  omega

theorem cum_nonneg (f : Bool) (y m : Int) (h1 : 1 ≤ m) : 0 ≤ cum f y m := by
  have := cum_mono f y 1 m (by omega) h1
  rw [cum_one] at this; omega

theorem ys_mono (f : Bool) (a b : Int) (h : a ≤ b) : ys f a + 365 * (b - a) ≤ ys f b := by
  obtain ⟨k, rfl⟩ : ∃ k : Nat, b = a + k := ⟨(b - a).toNat, by omega⟩
  clear h
  induction k with
  | zero => simp
  | succ k ih =>
    have := ys_succ f (a + k)
    have e : a + ((k + 1 : Nat) : Int) = a + k + 1 := by omega
    rw [e, this]
    split <;> omega

theorem ys_1 (f : Bool) : ys f 1 = if f then 2 else 0 := by cases f <;> rfl
theorem ys_2001 (f : Bool) : ys f 2001 = if f then 730487 else 730500 := by cases f <;> rfl

theorem ys_bd (f : Bool) (y : Int) (h1 : 1 ≤ y) (h2 : y ≤ 2001) : 0 ≤ ys f y ∧ ys f y ≤ 730500 := by
  have a := ys_mono f 1 y h1
  have b := ys_mono f y 2001 h2
  rw [ys_1] at a; rw [ys_2001] at b
  cases f <;> simp at a b <;> omega

theorem cum_bd (f : Bool) (y m : Int) (h1 : 1 ≤ m) (h2 : m ≤ 13) : 0 ≤ cum f y m ∧ cum f y m + 28 * (13 - m) ≤ 366 := by
  refine ⟨cum_nonneg f y m h1, ?_⟩
  have := cum_mono f y m 13 h1 h2
  rw [cum_13] at this
  split at this <;> omega

/-- within a year a date's number lies in the year. -/
theorem num_in (f : Bool) {y m d : Int} (h : valid f y m d) : ys f y ≤ num f y m d ∧ num f y m d < ys f (y + 1) := by
  obtain ⟨h1, h2, h3, h4, h5, h6⟩ := h
  unfold num
  have a := cum_bd f y m h3 (by omega)
  refine ⟨by omega, ?_⟩
  have b := cum_succ f y m h3
  have c := cum_mono f y (m + 1) 13 (by omega) (by omega)
  rw [ys_succ]; rw [cum_13] at c
  omega

theorem num_range (f : Bool) {y m d : Int} (h : valid f y m d) : ys f 1 ≤ num f y m d ∧ num f y m d < ys f 2001 := by
  have a := num_in f h
  have b := ys_mono f 1 y h.1
  have c := ys_mono f (y + 1) 2001 (by have := h.2.1; omega)
  have h2 := h.1
  have h3 := h.2.1
  omega

theorem num_inj (f : Bool) {y m d y' m' d' : Int} (h : valid f y m d) (h' : valid f y' m' d') (e : num f y m d = num f y' m' d') : y = y' ∧ m = m' ∧ d = d' := by
  have a := num_in f h
  have a' := num_in f h'
  have hy : y = y' := by
    rcases Int.lt_trichotomy y y' with l | l | l
    · have := ys_mono f (y + 1) y' (by omega); omega
    · exact l
    · have := ys_mono f (y' + 1) y (by omega); omega
  subst hy
  obtain ⟨_, _, h3, h4, h5, h6⟩ := h
  obtain ⟨_, _, k3, k4, k5, k6⟩ := h'
  unfold num at e
  have hm : m = m' := by
    rcases Int.lt_trichotomy m m' with l | l | l
    · have := cum_mono f y (m + 1) m' (by omega) (by omega)
      have := cum_succ f y m h3; omega
    · exact l
    · have := cum_mono f y (m' + 1) m (by omega) (by omega)
      have := cum_succ f y m' k3; omega
  subst hm
  exact ⟨rfl, rfl, by omega⟩

end Cal
namespace Cal
theorem guess_lo (f : Bool) (n : Int) (h1 : ys f 1 ≤ n) : ys f (1 + (n - ys f 1) * 4 / 1461) ≤ n := by
  rw [ys_1] at *
  unfold ys
  cases f <;> simp at * <;> omega
theorem guess_hi (f : Bool) (n : Int) (h1 : ys f 1 ≤ n) (h2 : n < ys f 2001) : n < ys f (1 + (n - ys f 1) * 4 / 1461 + 2) := by
  rw [ys_2001] at h2
  rw [ys_1] at *
  unfold ys
  cases f <;> simp at * <;> omega
theorem guess_bd (f : Bool) (n : Int) (h1 : ys f 1 ≤ n) (h2 : n < ys f 2001) : 1 ≤ 1 + (n - ys f 1) * 4 / 1461 ∧ 1 + (n - ys f 1) * 4 / 1461 ≤ 2000 := by
  rw [ys_2001] at h2
  rw [ys_1] at *
  cases f <;> simp at * <;> omega
theorem sguess_lo (f : Bool) (n : Int) (h1 : ys f 1 ≤ n) : ys f ((n - ys f 1) / 366 + 1) ≤ n := by
  rw [ys_1] at *
  unfold ys
  cases f <;> simp at * <;> omega
theorem sguess_bd (f : Bool) (n : Int) (h1 : ys f 1 ≤ n) (h2 : n ≤ 730499) : 1 ≤ (n - ys f 1) / 366 + 1 ∧ (n - ys f 1) / 366 + 1 ≤ 2000 := by
  rw [ys_1] at *
  cases f <;> simp at * <;> omega
end Cal
end Go.Proofs.YtfhcakpmlppbkaaDoor

namespace Go.Proofs.YtfhcakpmlppbkaaDoor.Eas

/-- A year of the two calendars. -/
def isY (y : Int) : Prop := 1 ≤ y ∧ y ≤ 2000
instance (y : Int) : Decidable (isY y) := by unfold isY; exact inferInstance

def delay (y : Int) : Int := (19 * (y % 19) + 15) % 30
theorem delay_bd (y : Int) : 0 ≤ delay y ∧ delay y ≤ 28 := by unfold delay; omega

/-- How many days lie between the full moon and Easter. -/
def gap (y : Int) : Int := (2 * (y % 4) + 4 * (y % 7) - delay y + 34) % 7
theorem gap_bd (y : Int) : 0 ≤ gap y ∧ gap y ≤ 6 := by unfold gap; omega
def oS (y : Int) : Int := delay y + gap y + 114
def oM (y : Int) : Int := oS y / 31
def oD (y : Int) : Int := oS y % 31 + 1
theorem oS_bd (y : Int) : 114 ≤ oS y ∧ oS y ≤ 148 := by
  have a := delay_bd y
  have b := gap_bd y
  unfold oS; omega
theorem oM_or (y : Int) : (oM y = 3 ∧ oD y = oS y - 92 ∧ 22 ≤ oD y ∧ oD y ≤ 31) ∨ (oM y = 4 ∧ oD y = oS y - 123 ∧ 1 ≤ oD y ∧ oD y ≤ 25) := by
  have a := oS_bd y
  unfold oM oD; omega
theorem mlen_3 (f : Bool) (y : Int) : Cal.mlen f y 3 = 31 := by simp [Cal.mlen]
theorem mlen_4 (f : Bool) (y : Int) : Cal.mlen f y 4 = 30 := by simp [Cal.mlen]
theorem o_valid (y : Int) (h : isY y) : Cal.valid false y (oM y) (oD y) := by
  obtain ⟨h1, h2⟩ := h
  rcases oM_or y with ⟨e, -, d1, d2⟩ | ⟨e, -, d1, d2⟩
  · rw [e]; exact ⟨h1, h2, by omega, by omega, by omega, by rw [mlen_3]; omega⟩
  · rw [e]; exact ⟨h1, h2, by omega, by omega, by omega, by rw [mlen_4]; omega⟩
theorem valid_321 (y : Int) (h : isY y) : Cal.valid false y 3 21 := ⟨h.1, h.2, by omega, by omega, by omega, by rw [mlen_3]; omega⟩
theorem cum_3 (f : Bool) (y : Int) : Cal.cum f y 3 = 59 + (if Cal.lp f y then 1 else 0) := by
  rw [show (3 : Int) = 2 + 1 by rfl, Cal.cum_succ f y 2 (by omega), show (2 : Int) = 1 + 1 by rfl, Cal.cum_succ f y 1 (by omega), Cal.cum_one]
  simp [Cal.mlen]
  split <;> omega
theorem cum_4 (f : Bool) (y : Int) : Cal.cum f y 4 = Cal.cum f y 3 + 31 := by
  rw [show (4 : Int) = 3 + 1 by rfl, Cal.cum_succ f y 3 (by omega), mlen_3]

/-- The day of Easter by the old rule. -/
def oE (y : Int) : Int := Cal.num false y (oM y) (oD y)
theorem oE_eq (y : Int) : oE y = Cal.num false y 3 21 + delay y + gap y + 1 := by
  have c := cum_4 false y
  unfold oE Cal.num
  rcases oM_or y with ⟨e, d, -, -⟩ | ⟨e, d, -, -⟩
  · rw [e, d]; unfold oS; omega
  · rw [e, d, c]; unfold oS; omega
theorem num_321 (y : Int) (h : isY y) : 79 ≤ Cal.num false y 3 21 ∧ Cal.num false y 3 21 ≤ 730215 := by
  obtain ⟨h1, h2⟩ := h
  have b := Cal.num_in false (valid_321 y ⟨h1, h2⟩)
  have c := cum_3 false y
  have g1 := Cal.ys_mono false 1 y h1
  have g := Cal.ys_mono false y 2000 h2
  rw [Cal.ys_1] at g1
  have g3 : Cal.ys false 2000 = 730134 := by decide
  rw [g3] at g
  simp at g1
  unfold Cal.num at *
  split at c <;> omega
theorem oE_bd (y : Int) (h : isY y) : 80 ≤ oE y ∧ oE y ≤ 730250 := by
  have a := num_321 y h
  have b := delay_bd y
  have c := gap_bd y
  have d := oE_eq y
  omega
theorem lp_old (y : Int) : (y - 1) / 4 + (if Cal.lp false y then 1 else 0) = y / 4 := by
  unfold Cal.lp
  simp
  split <;> omega
theorem oE_sunday (y : Int) : (oE y + 5) % 7 = 6 := by
  have a := oE_eq y
  have c := cum_3 false y
  have l := lp_old y
  have e : Cal.num false y 3 21 = (y - 1) * 365 + (y - 1) / 4 + Cal.cum false y 3 + 20 := by unfold Cal.num Cal.ys; simp; omega
  have g : gap y = (2 * (y % 4) + 4 * (y % 7) - delay y + 34) % 7 := rfl
  generalize delay y = p at *
  generalize gap y = q at *
  generalize oE y = n at *
  generalize Cal.num false y 3 21 = t at *
  generalize Cal.cum false y 3 = u at *
  generalize (if Cal.lp false y then (1 : Int) else 0) = v at *
  omega

/-! ### the new rule -/
def nH (y : Int) : Int := (19 * (y % 19) + y / 100 - y / 100 / 4 - (8 * (y / 100) + 13) / 25 + 15) % 30
def nI (y : Int) : Int := nH y - nH y / 28 * (1 - 29 / (nH y + 1) * ((21 - y % 19) / 11))
def nJ (y : Int) : Int := (y + y / 4 + nI y + 2 - y / 100 + y / 100 / 4) % 7
def nL (y : Int) : Int := nI y - nJ y
def nM (y : Int) : Int := 3 + (nL y + 40) / 44
def nD (y : Int) : Int := nL y + 28 - 31 * (nM y / 4)
theorem nH_bd (y : Int) : 0 ≤ nH y ∧ nH y ≤ 29 := by unfold nH; omega
theorem nX_bd (y : Int) : 0 ≤ 29 / (nH y + 1) ∧ 29 / (nH y + 1) ≤ 29 ∧ 0 ≤ (21 - y % 19) / 11 ∧ (21 - y % 19) / 11 ≤ 1 := by
  have a := nH_bd y
  refine ⟨Int.ediv_nonneg (by omega) (by omega), ?_, by omega, by omega⟩
  exact Int.ediv_le_of_le_mul (by omega) (by omega)
theorem nP_bd (y : Int) : 0 ≤ 29 / (nH y + 1) * ((21 - y % 19) / 11) ∧ 29 / (nH y + 1) * ((21 - y % 19) / 11) ≤ 29 := by
  obtain ⟨a, b, c, d⟩ := nX_bd y
  generalize 29 / (nH y + 1) = x at *
  have : (21 - y % 19) / 11 = 0 ∨ (21 - y % 19) / 11 = 1 := by omega
  rcases this with e | e <;> rw [e] <;> omega
theorem nI_bd (y : Int) : 0 ≤ nI y ∧ nI y ≤ 28 := by
  have a := nH_bd y
  unfold nI
  generalize nH y = h at *
  by_cases h28 : h < 28
  · have : h / 28 = 0 := by omega
    rw [this]; omega
  · have h1 : h = 28 ∨ h = 29 := by omega
    have c : (21 - y % 19) / 11 = 0 ∨ (21 - y % 19) / 11 = 1 := by omega
    rcases h1 with rfl | rfl <;> rcases c with e | e <;> rw [e] <;> decide
theorem nJ_bd (y : Int) : 0 ≤ nJ y ∧ nJ y ≤ 6 := by unfold nJ; omega
theorem nL_bd (y : Int) : -6 ≤ nL y ∧ nL y ≤ 28 := by
  have a := nI_bd y
  have b := nJ_bd y
  unfold nL; omega
theorem nM_or (y : Int) : (nM y = 3 ∧ nD y = nL y + 28 ∧ 22 ≤ nD y ∧ nD y ≤ 31) ∨ (nM y = 4 ∧ nD y = nL y - 3 ∧ 1 ≤ nD y ∧ nD y ≤ 25) := by
  have a := nL_bd y
  unfold nD nM; omega
theorem n_valid (y : Int) (h : isY y) : Cal.valid true y (nM y) (nD y) := by
  obtain ⟨h1, h2⟩ := h
  rcases nM_or y with ⟨e, -, d1, d2⟩ | ⟨e, -, d1, d2⟩
  · rw [e]; exact ⟨h1, h2, by omega, by omega, by omega, by rw [mlen_3]; omega⟩
  · rw [e]; exact ⟨h1, h2, by omega, by omega, by omega, by rw [mlen_4]; omega⟩
/-- The day of Easter by the new rule. -/
def nE (y : Int) : Int := Cal.num true y (nM y) (nD y)
theorem nE_eq (y : Int) : nE y = Cal.ys true y + Cal.cum true y 3 + nL y + 27 := by
  have c := cum_4 true y
  unfold nE Cal.num
  rcases nM_or y with ⟨e, d, -, -⟩ | ⟨e, d, -, -⟩
  · rw [e, d]; omega
  · rw [e, d, c]; omega
theorem lp_new (y : Int) : (y - 1) / 4 - (y - 1) / 100 + (y - 1) / 400 + (if Cal.lp true y then 1 else 0) = y / 4 - y / 100 + y / 100 / 4 := by
  unfold Cal.lp
  simp
  split <;> split <;> omega
theorem nE_sunday (y : Int) : (nE y + 5) % 7 = 6 := by
  have a := nE_eq y
  have c := cum_3 true y
  have l := lp_new y
  have e : Cal.ys true y = (y - 1) * 365 + (y - 1) / 4 + (2 - (y - 1) / 100 + (y - 1) / 400) := by unfold Cal.ys; simp
  have j : nJ y = (y + y / 4 + nI y + 2 - y / 100 + y / 100 / 4) % 7 := rfl
  have k : nL y = nI y - nJ y := rfl
  generalize nI y = i at *
  generalize nJ y = j at *
  generalize nL y = L at *
  generalize nE y = n at *
  generalize Cal.ys true y = t at *
  generalize Cal.cum true y 3 = u at *
  generalize (if Cal.lp true y then (1 : Int) else 0) = v at *
  omega
theorem nE_bd (y : Int) (h : isY y) : Cal.ys true 1 ≤ nE y ∧ nE y < Cal.ys true 2001 := Cal.num_range true (n_valid y h)

/-! ### Easter at a place -/
/-- The day of Easter in a place whose reform is R. -/
def lcN (R y : Int) : Int := if oE y < R then oE y else if y < 1583 then 0 else if nE y < R then 0 else nE y
def lcB (R y : Int) : Bool := decide (oE y < R ∨ (1583 ≤ y ∧ R ≤ nE y))

end Go.Proofs.YtfhcakpmlppbkaaDoor.Eas
