/- Texts of a claim in one file: EasM FeaM. -/
import Derived.Test.YtfhcakpmlppbkaaGreatDoorGrpAa
namespace Go.Proofs.YtfhcakpmlppbkaaGreatDoor.Eas

/-- A year of the two calendars. -/
def isY (y : Int) : Prop := 1 ≤ y ∧ y ≤ 2000
instance (y : Int) : Decidable (isY y) := by unfold isY; exact inferInstance

def delay (y : Int) : Int := (19 * (y % 19) + 15) % 30
theorem delay_bd (y : Int) : 0 ≤ delay y ∧ delay y ≤ 28 := by unfold delay; omega

/-- How many days lie between the full moon and Easter. -/
def gap (y : Int) : Int := (2 * (y % 4) + 4 * (y % 7) - delay y + 34) % 7
theorem gap_bd (y : Int) : 0 ≤ gap y ∧ gap y ≤ 6 := by unfold gap; omega
def oS (y : Int) : Int := delay y + gap y + 114
def oM (y : Int) : Int := oS y / 31
def oD (y : Int) : Int := oS y % 31 + 1
theorem oS_bd (y : Int) : 114 ≤ oS y ∧ oS y ≤ 148 := by
  have a := delay_bd y
  have b := gap_bd y
  unfold oS; omega
theorem oM_or (y : Int) : (oM y = 3 ∧ oD y = oS y - 92 ∧ 22 ≤ oD y ∧ oD y ≤ 31) ∨ (oM y = 4 ∧ oD y = oS y - 123 ∧ 1 ≤ oD y ∧ oD y ≤ 25) := by
  have a := oS_bd y
  unfold oM oD; omega
theorem mlen_3 (f : Bool) (y : Int) : Cal.mlen f y 3 = 31 := by simp [Cal.mlen]
theorem mlen_4 (f : Bool) (y : Int) : Cal.mlen f y 4 = 30 := by simp [Cal.mlen]
theorem o_valid (y : Int) (h : isY y) : Cal.valid false y (oM y) (oD y) := by
  obtain ⟨h1, h2⟩ := h
  rcases oM_or y with ⟨e, -, d1, d2⟩ | ⟨e, -, d1, d2⟩
  · rw [e]; exact ⟨h1, h2, by omega, by omega, by omega, by rw [mlen_3]; omega⟩
  · rw [e]; exact ⟨h1, h2, by omega, by omega, by omega, by rw [mlen_4]; omega⟩
theorem valid_321 (y : Int) (h : isY y) : Cal.valid false y 3 21 := ⟨h.1, h.2, by omega, by omega, by omega, by rw [mlen_3]; omega⟩
theorem cum_3 (f : Bool) (y : Int) : Cal.cum f y 3 = 59 + (if Cal.lp f y then 1 else 0) := by
  rw [show (3 : Int) = 2 + 1 by rfl, Cal.cum_succ f y 2 (by omega), show (2 : Int) = 1 + 1 by rfl, Cal.cum_succ f y 1 (by omega), Cal.cum_one]
  simp [Cal.mlen]
  split <;> omega
theorem cum_4 (f : Bool) (y : Int) : Cal.cum f y 4 = Cal.cum f y 3 + 31 := by
  rw [show (4 : Int) = 3 + 1 by rfl, Cal.cum_succ f y 3 (by omega), mlen_3]

/-- The day of Easter by the old rule. -/
def oE (y : Int) : Int := Cal.num false y (oM y) (oD y)
theorem oE_eq (y : Int) : oE y = Cal.num false y 3 21 + delay y + gap y + 1 := by
  have c := cum_4 false y
  unfold oE Cal.num
  rcases oM_or y with ⟨e, d, -, -⟩ | ⟨e, d, -, -⟩
  · rw [e, d]; unfold oS; omega
  · rw [e, d, c]; unfold oS; omega
theorem num_321 (y : Int) (h : isY y) : 79 ≤ Cal.num false y 3 21 ∧ Cal.num false y 3 21 ≤ 730215 := by
  obtain ⟨h1, h2⟩ := h
  have b := Cal.num_in false (valid_321 y ⟨h1, h2⟩)
  have c := cum_3 false y
  have g1 := Cal.ys_mono false 1 y h1
  have g := Cal.ys_mono false y 2000 h2
  rw [Cal.ys_1] at g1
  have g3 : Cal.ys false 2000 = 730134 := by decide
  rw [g3] at g
  simp at g1
  unfold Cal.num at *
  split at c <;> omega
theorem oE_bd (y : Int) (h : isY y) : 80 ≤ oE y ∧ oE y ≤ 730250 := by
  have a := num_321 y h
  have b := delay_bd y
  have c := gap_bd y
  have d := oE_eq y
  omega
theorem lp_old (y : Int) : (y - 1) / 4 + (if Cal.lp false y then 1 else 0) = y / 4 := by
  unfold Cal.lp
  simp
  split <;> omega
theorem oE_sunday (y : Int) : (oE y + 5) % 7 = 6 := by
  have a := oE_eq y
  have c := cum_3 false y
  have l := lp_old y
  have e : Cal.num false y 3 21 = (y - 1) * 365 + (y - 1) / 4 + Cal.cum false y 3 + 20 := by unfold Cal.num Cal.ys; simp; omega
  have g : gap y = (2 * (y % 4) + 4 * (y % 7) - delay y + 34) % 7 := rfl
  generalize delay y = p at *
  generalize gap y = q at *
  generalize oE y = n at *
  generalize Cal.num false y 3 21 = t at *
  generalize Cal.cum false y 3 = u at *
  generalize (if Cal.lp false y then (1 : Int) else 0) = v at *
  omega

/-! ### the new rule -/
def nH (y : Int) : Int := (19 * (y % 19) + y / 100 - y / 100 / 4 - (8 * (y / 100) + 13) / 25 + 15) % 30
def nI (y : Int) : Int := nH y - nH y / 28 * (1 - 29 / (nH y + 1) * ((21 - y % 19) / 11))
def nJ (y : Int) : Int := (y + y / 4 + nI y + 2 - y / 100 + y / 100 / 4) % 7
def nL (y : Int) : Int := nI y - nJ y
def nM (y : Int) : Int := 3 + (nL y + 40) / 44
def nD (y : Int) : Int := nL y + 28 - 31 * (nM y / 4)
theorem nH_bd (y : Int) : 0 ≤ nH y ∧ nH y ≤ 29 := by unfold nH; omega
theorem nX_bd (y : Int) : 0 ≤ 29 / (nH y + 1) ∧ 29 / (nH y + 1) ≤ 29 ∧ 0 ≤ (21 - y % 19) / 11 ∧ (21 - y % 19) / 11 ≤ 1 := by
  have a := nH_bd y
  refine ⟨Int.ediv_nonneg (by omega) (by omega), ?_, by omega, by omega⟩
  exact Int.ediv_le_of_le_mul (by omega) (by omega)
theorem nP_bd (y : Int) : 0 ≤ 29 / (nH y + 1) * ((21 - y % 19) / 11) ∧ 29 / (nH y + 1) * ((21 - y % 19) / 11) ≤ 29 := by
  obtain ⟨a, b, c, d⟩ := nX_bd y
  generalize 29 / (nH y + 1) = x at *
  have : (21 - y % 19) / 11 = 0 ∨ (21 - y % 19) / 11 = 1 := by omega
  rcases this with e | e <;> rw [e] <;> omega
theorem nI_bd (y : Int) : 0 ≤ nI y ∧ nI y ≤ 28 := by
  have a := nH_bd y
  unfold nI
  generalize nH y = h at *
  by_cases h28 : h < 28
  · have : h / 28 = 0 := by omega
    rw [this]; omega
  · have h1 : h = 28 ∨ h = 29 := by omega
    have c : (21 - y % 19) / 11 = 0 ∨ (21 - y % 19) / 11 = 1 := by omega
    rcases h1 with rfl | rfl <;> rcases c with e | e <;> rw [e] <;> decide
theorem nJ_bd (y : Int) : 0 ≤ nJ y ∧ nJ y ≤ 6 := by unfold nJ; omega
theorem nL_bd (y : Int) : -6 ≤ nL y ∧ nL y ≤ 28 := by
  have a := nI_bd y
  have b := nJ_bd y
  unfold nL; omega
theorem nM_or (y : Int) : (nM y = 3 ∧ nD y = nL y + 28 ∧ 22 ≤ nD y ∧ nD y ≤ 31) ∨ (nM y = 4 ∧ nD y = nL y - 3 ∧ 1 ≤ nD y ∧ nD y ≤ 25) := by
  have a := nL_bd y
  unfold nD nM; omega
theorem n_valid (y : Int) (h : isY y) : Cal.valid true y (nM y) (nD y) := by
  obtain ⟨h1, h2⟩ := h
  rcases nM_or y with ⟨e, -, d1, d2⟩ | ⟨e, -, d1, d2⟩
  · rw [e]; exact ⟨h1, h2, by omega, by omega, by omega, by rw [mlen_3]; omega⟩
  · rw [e]; exact ⟨h1, h2, by omega, by omega, by omega, by rw [mlen_4]; omega⟩
/-- The day of Easter by the new rule. -/
def nE (y : Int) : Int := Cal.num true y (nM y) (nD y)
theorem nE_eq (y : Int) : nE y = Cal.ys true y + Cal.cum true y 3 + nL y + 27 := by
  have c := cum_4 true y
  unfold nE Cal.num
  rcases nM_or y with ⟨e, d, -, -⟩ | ⟨e, d, -, -⟩
  · rw [e, d]; omega
  · rw [e, d, c]; omega
theorem lp_new (y : Int) : (y - 1) / 4 - (y - 1) / 100 + (y - 1) / 400 + (if Cal.lp true y then 1 else 0) = y / 4 - y / 100 + y / 100 / 4 := by
  unfold Cal.lp
  simp
  split <;> split <;> omega
theorem nE_sunday (y : Int) : (nE y + 5) % 7 = 6 := by
  have a := nE_eq y
  have c := cum_3 true y
  have l := lp_new y
  have e : Cal.ys true y = (y - 1) * 365 + (y - 1) / 4 + (2 - (y - 1) / 100 + (y - 1) / 400) := by unfold Cal.ys; simp
  have j : nJ y = (y + y / 4 + nI y + 2 - y / 100 + y / 100 / 4) % 7 := rfl
  have k : nL y = nI y - nJ y := rfl
  generalize nI y = i at *
  generalize nJ y = j at *
  generalize nL y = L at *
  generalize nE y = n at *
  generalize Cal.ys true y = t at *
  generalize Cal.cum true y 3 = u at *
  generalize (if Cal.lp true y then (1 : Int) else 0) = v at *
  omega
theorem nE_bd (y : Int) (h : isY y) : Cal.ys true 1 ≤ nE y ∧ nE y < Cal.ys true 2001 := Cal.num_range true (n_valid y h)

/-! ### Easter at a place -/
/-- The day of Easter in a place whose reform is R. -/
def lcN (R y : Int) : Int := if oE y < R then oE y else if y < 1583 then 0 else if nE y < R then 0 else nE y
def lcB (R y : Int) : Bool := decide (oE y < R ∨ (1583 ≤ y ∧ R ≤ nE y))

end Go.Proofs.YtfhcakpmlppbkaaGreatDoor.Eas

namespace Go.Proofs.YtfhcakpmlppbkaaGreatDoor.Fea
open Go.Proofs.YtfhcakpmlppbkaaGreatDoor.Eas (isY oE oE_eq num_321 delay_bd gap_bd cum_3 o_valid)

/-- A feast's number. -/
def isF (f : Int) : Prop := 0 ≤ f ∧ f ≤ 19
instance (f : Int) : Decidable (isF f) := by unfold isF; exact inferInstance
/-- The day of a feast in a year. -/
def fd (f y : Int) : Int :=
  if f = 0 then Cal.num false y 1 1 else if f = 1 then Cal.num false y 1 6 else if f = 2 then Cal.num false y 2 2 else if f = 3 then Cal.num false y 3 25 else if f = 4 then Cal.num false y 6 24
  else if f = 5 then Cal.num false y 6 29 else if f = 6 then Cal.num false y 8 10 else if f = 7 then Cal.num false y 8 15 else if f = 8 then Cal.num false y 9 29 else if f = 9 then Cal.num false y 11 1
  else if f = 10 then Cal.num false y 11 11 else if f = 11 then Cal.num false y 11 30 else if f = 12 then Cal.num false y 12 6 else if f = 13 then Cal.num false y 12 25
  else if f = 14 then oE y - 46 else if f = 15 then oE y - 7 else if f = 16 then oE y else if f = 17 then oE y + 39 else if f = 18 then oE y + 49 else oE y + 56

theorem mlenN (f : Bool) (y m : Int) (h : m ≠ 2) : Cal.mlen f y m = if m = 4 ∨ m = 6 ∨ m = 9 ∨ m = 11 then 30 else 31 := by simp [Cal.mlen, h]
theorem mlen2 (y : Int) : Cal.mlen false y 2 = 28 + (if Cal.lp false y then 1 else 0) := by simp [Cal.mlen]; split <;> rfl
theorem cums (y : Int) : Cal.cum false y 1 = 0 ∧ Cal.cum false y 2 = 31 ∧ Cal.cum false y 3 = 59 + (if Cal.lp false y then 1 else 0) ∧ Cal.cum false y 6 = 151 + (if Cal.lp false y then 1 else 0) ∧ Cal.cum false y 8 = 212 + (if Cal.lp false y then 1 else 0) ∧
    Cal.cum false y 9 = 243 + (if Cal.lp false y then 1 else 0) ∧ Cal.cum false y 11 = 304 + (if Cal.lp false y then 1 else 0) ∧ Cal.cum false y 12 = 334 + (if Cal.lp false y then 1 else 0) := by
  have c1 := Cal.cum_one false y
  have c2 := Cal.cum_succ false y 1 (by omega)
  have c3 := cum_3 false y
  have c4 := Cal.cum_succ false y 3 (by omega)
  have c5 := Cal.cum_succ false y 4 (by omega)
  have c6 := Cal.cum_succ false y 5 (by omega)
  have c7 := Cal.cum_succ false y 6 (by omega)
  have c8 := Cal.cum_succ false y 7 (by omega)
  have c9 := Cal.cum_succ false y 8 (by omega)
  have c10 := Cal.cum_succ false y 9 (by omega)
  have c11 := Cal.cum_succ false y 10 (by omega)
  have c12 := Cal.cum_succ false y 11 (by omega)
  rw [mlenN _ _ _ (by omega)] at c2 c4 c5 c6 c7 c8 c9 c10 c11 c12
  simp at c2 c4 c5 c6 c7 c8 c9 c10 c11 c12
  omega
/-- A feast falls in its year. -/
theorem fd_in (f y : Int) : Cal.ys false y ≤ fd f y ∧ fd f y < Cal.ys false (y + 1) := by
  obtain ⟨c1, c2, c3, c6, c8, c9, c11, c12⟩ := cums y
  have e := oE_eq y
  have d := delay_bd y
  have g := gap_bd y
  have s := Cal.ys_succ false y
  have t : Cal.num false y 3 21 = Cal.ys false y + Cal.cum false y 3 + 20 := by unfold Cal.num; omega
  unfold fd Cal.num
  have hv : 0 ≤ (if Cal.lp false y then (1 : Int) else 0) ∧ (if Cal.lp false y then (1 : Int) else 0) ≤ 1 := by split <;> omega
  generalize (if Cal.lp false y then (1 : Int) else 0) = v at *
  repeat' split
  all_goals omega
theorem fd_bd (f y : Int) (hy : isY y) : 0 ≤ fd f y ∧ fd f y ≤ 730499 := by
  have h := fd_in f y
  have a := Cal.ys_mono false 1 y hy.1
  have b := Cal.ys_mono false (y + 1) 2001 (by have := hy.2; omega)
  rw [Cal.ys_1] at a
  rw [Cal.ys_2001] at b
  have h1 := hy.1
  have h2 := hy.2
  simp at a b
  omega

/-- A relation and a weekday that are as told. -/
def isR (r k : Int) : Prop := 0 ≤ r ∧ r ≤ 4 ∧ 0 ≤ k ∧ k ≤ 6 ∧ (3 ≤ r ∨ k = 0)
instance (r k : Int) : Decidable (isR r k) := by unfold isR; exact inferInstance
/-- The day with a relation to a day. -/
def rd (r k n : Int) : Int := if r = 1 then n - 1 else if r = 2 then n + 7 else if r = 3 then n + 1 + (k + 14 - (n + 6) % 7) % 7 else if r = 4 then n - 1 - ((n + 11) % 7 + 7 - k) % 7 else n
theorem rd_bd (r k n : Int) : n - 7 ≤ rd r k n ∧ rd r k n ≤ n + 7 := by
  unfold rd
  repeat' split
  all_goals omega
theorem rd_after (k n : Int) (h0 : 0 ≤ k) (h1 : k ≤ 6) : n < rd 3 k n ∧ rd 3 k n ≤ n + 7 ∧ (rd 3 k n + 5) % 7 = k := by
  have e : rd 3 k n = n + 1 + (k + 14 - (n + 6) % 7) % 7 := rfl
  omega
theorem rd_before (k n : Int) (h0 : 0 ≤ k) (h1 : k ≤ 6) : rd 4 k n < n ∧ n - 7 ≤ rd 4 k n ∧ (rd 4 k n + 5) % 7 = k := by
  have e : rd 4 k n = n - 1 - ((n + 11) % 7 + 7 - k) % 7 := rfl
  omega

/-- The feasts on a day of a year, those with numbers before k. -/
def fo (n y : Int) : Nat → List Int
  | 0 => []
  | k + 1 => fo n y k ++ (if fd k y = n then [(k : Int)] else [])
theorem fo_len (n y : Int) (k : Nat) : (fo n y k).length ≤ k := by
  induction k with
  | zero => simp [fo]
  | succ k ih => simp only [fo, List.length_append]; split <;> simp <;> omega
theorem fo_mem (n y : Int) (k : Nat) (x : Int) : x ∈ fo n y k ↔ 0 ≤ x ∧ x < k ∧ fd x y = n := by
  induction k with
  | zero => simp [fo]; omega
  | succ k ih =>
    rw [fo, List.mem_append, ih]
    constructor
    · rintro (h | h)
      · exact ⟨h.1, by omega, h.2.2⟩
      · split at h
        · simp at h; subst h; rename_i e; exact ⟨by omega, by omega, e⟩
        · simp at h
    · rintro ⟨h0, h1, h2⟩
      by_cases e : x < k
      · exact .inl ⟨h0, e, h2⟩
      · have : x = k := by omega
        subst this
        exact .inr (by rw [if_pos h2]; simp)

end Go.Proofs.YtfhcakpmlppbkaaGreatDoor.Fea
