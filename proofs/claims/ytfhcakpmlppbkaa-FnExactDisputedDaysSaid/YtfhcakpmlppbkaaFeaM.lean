/- The mathematics of feasts: their days in a year, and the days related to them. -/
import Derived.Test.YtfhcakpmlppbkaaEasM
namespace Go.Proofs.Ytfhcakpmlppbkaa.Fea
open Go.Proofs.Ytfhcakpmlppbkaa.Eas (isY oE oE_eq num_321 delay_bd gap_bd cum_3 o_valid)

/-- A feast's number. -/
def isF (f : Int) : Prop := 0 ≤ f ∧ f ≤ 19
instance (f : Int) : Decidable (isF f) := by unfold isF; exact inferInstance
/-- The day of a feast in a year. -/
def fd (f y : Int) : Int :=
  if f = 0 then Cal.num false y 1 1 else if f = 1 then Cal.num false y 1 6 else if f = 2 then Cal.num false y 2 2 else if f = 3 then Cal.num false y 3 25 else if f = 4 then Cal.num false y 6 24
  else if f = 5 then Cal.num false y 6 29 else if f = 6 then Cal.num false y 8 10 else if f = 7 then Cal.num false y 8 15 else if f = 8 then Cal.num false y 9 29 else if f = 9 then Cal.num false y 11 1
  else if f = 10 then Cal.num false y 11 11 else if f = 11 then Cal.num false y 11 30 else if f = 12 then Cal.num false y 12 6 else if f = 13 then Cal.num false y 12 25
  else if f = 14 then oE y - 46 else if f = 15 then oE y - 7 else if f = 16 then oE y else if f = 17 then oE y + 39 else if f = 18 then oE y + 49 else oE y + 56

theorem mlenN (f : Bool) (y m : Int) (h : m ≠ 2) : Cal.mlen f y m = if m = 4 ∨ m = 6 ∨ m = 9 ∨ m = 11 then 30 else 31 := by simp [Cal.mlen, h]
theorem mlen2 (y : Int) : Cal.mlen false y 2 = 28 + (if Cal.lp false y then 1 else 0) := by simp [Cal.mlen]; split <;> rfl
theorem cums (y : Int) : Cal.cum false y 1 = 0 ∧ Cal.cum false y 2 = 31 ∧ Cal.cum false y 3 = 59 + (if Cal.lp false y then 1 else 0) ∧ Cal.cum false y 6 = 151 + (if Cal.lp false y then 1 else 0) ∧ Cal.cum false y 8 = 212 + (if Cal.lp false y then 1 else 0) ∧
    Cal.cum false y 9 = 243 + (if Cal.lp false y then 1 else 0) ∧ Cal.cum false y 11 = 304 + (if Cal.lp false y then 1 else 0) ∧ Cal.cum false y 12 = 334 + (if Cal.lp false y then 1 else 0) := by
  have c1 := Cal.cum_one false y
  have c2 := Cal.cum_succ false y 1 (by omega)
  have c3 := cum_3 false y
  have c4 := Cal.cum_succ false y 3 (by omega)
  have c5 := Cal.cum_succ false y 4 (by omega)
  have c6 := Cal.cum_succ false y 5 (by omega)
  have c7 := Cal.cum_succ false y 6 (by omega)
  have c8 := Cal.cum_succ false y 7 (by omega)
  have c9 := Cal.cum_succ false y 8 (by omega)
  have c10 := Cal.cum_succ false y 9 (by omega)
  have c11 := Cal.cum_succ false y 10 (by omega)
  have c12 := Cal.cum_succ false y 11 (by omega)
  rw [mlenN _ _ _ (by omega)] at c2 c4 c5 c6 c7 c8 c9 c10 c11 c12
  simp at c2 c4 c5 c6 c7 c8 c9 c10 c11 c12
  omega
/-- A feast falls in its year. -/
theorem fd_in (f y : Int) : Cal.ys false y ≤ fd f y ∧ fd f y < Cal.ys false (y + 1) := by
  obtain ⟨c1, c2, c3, c6, c8, c9, c11, c12⟩ := cums y
  have e := oE_eq y
  have d := delay_bd y
  have g := gap_bd y
  have s := Cal.ys_succ false y
  have t : Cal.num false y 3 21 = Cal.ys false y + Cal.cum false y 3 + 20 := by unfold Cal.num; omega
  unfold fd Cal.num
  have hv : 0 ≤ (if Cal.lp false y then (1 : Int) else 0) ∧ (if Cal.lp false y then (1 : Int) else 0) ≤ 1 := by split <;> omega
  generalize (if Cal.lp false y then (1 : Int) else 0) = v at *
  repeat' split
  all_goals omega
theorem fd_bd (f y : Int) (hy : isY y) : 0 ≤ fd f y ∧ fd f y ≤ 730499 := by
  have h := fd_in f y
  have a := Cal.ys_mono false 1 y hy.1
  have b := Cal.ys_mono false (y + 1) 2001 (by have := hy.2; omega)
  rw [Cal.ys_1] at a
  rw [Cal.ys_2001] at b
  have h1 := hy.1
  have h2 := hy.2
  simp at a b
  omega

/-- A relation and a weekday that are as told. -/
def isR (r k : Int) : Prop := 0 ≤ r ∧ r ≤ 4 ∧ 0 ≤ k ∧ k ≤ 6 ∧ (3 ≤ r ∨ k = 0)
instance (r k : Int) : Decidable (isR r k) := by unfold isR; exact inferInstance
/-- The day with a relation to a day. -/
def rd (r k n : Int) : Int := if r = 1 then n - 1 else if r = 2 then n + 7 else if r = 3 then n + 1 + (k + 14 - (n + 6) % 7) % 7 else if r = 4 then n - 1 - ((n + 11) % 7 + 7 - k) % 7 else n
theorem rd_bd (r k n : Int) : n - 7 ≤ rd r k n ∧ rd r k n ≤ n + 7 := by
  unfold rd
  repeat' split
  all_goals omega
theorem rd_after (k n : Int) (h0 : 0 ≤ k) (h1 : k ≤ 6) : n < rd 3 k n ∧ rd 3 k n ≤ n + 7 ∧ (rd 3 k n + 5) % 7 = k := by
  have e : rd 3 k n = n + 1 + (k + 14 - (n + 6) % 7) % 7 := rfl
  omega
theorem rd_before (k n : Int) (h0 : 0 ≤ k) (h1 : k ≤ 6) : rd 4 k n < n ∧ n - 7 ≤ rd 4 k n ∧ (rd 4 k n + 5) % 7 = k := by
  have e : rd 4 k n = n - 1 - ((n + 11) % 7 + 7 - k) % 7 := rfl
  omega

/-- The feasts on a day of a year, those with numbers before k. -/
def fo (n y : Int) : Nat → List Int
  | 0 => []
  | k + 1 => fo n y k ++ (if fd k y = n then [(k : Int)] else [])
theorem fo_len (n y : Int) (k : Nat) : (fo n y k).length ≤ k := by
  induction k with
  | zero => simp [fo]
  | succ k ih => simp only [fo, List.length_append]; split <;> simp <;> omega
theorem fo_mem (n y : Int) (k : Nat) (x : Int) : x ∈ fo n y k ↔ 0 ≤ x ∧ x < k ∧ fd x y = n := by
  induction k with
  | zero => simp [fo]; omega
  | succ k ih =>
    rw [fo, List.mem_append, ih]
    constructor
    · rintro (h | h)
      · exact ⟨h.1, by omega, h.2.2⟩
      · split at h
        · simp at h; subst h; rename_i e; exact ⟨by omega, by omega, e⟩
        · simp at h
    · rintro ⟨h0, h1, h2⟩
      by_cases e : x < k
      · exact .inl ⟨h0, e, h2⟩
      · have : x = k := by omega
        subst this
        exact .inr (by rw [if_pos h2]; simp)

end Go.Proofs.Ytfhcakpmlppbkaa.Fea
