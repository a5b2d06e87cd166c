/- Texts of a claim in one file: FeaM FeaN. -/
import Derived.Test.YtfhcakpmlppbkaaDoorGrpAa
namespace Go.Proofs.YtfhcakpmlppbkaaDoor.Fea
open Go.Proofs.YtfhcakpmlppbkaaDoor.Eas (isY oE oE_eq num_321 delay_bd gap_bd cum_3 o_valid)

/-- A feast's number. -/
def isF (f : Int) : Prop := 0 ≤ f ∧ f ≤ 19
instance (f : Int) : Decidable (isF f) := by unfold isF; exact inferInstance
/-- The day of a feast in a year. -/
def fd (f y : Int) : Int :=
  if f = 0 then Cal.num false y 1 1 else if f = 1 then Cal.num false y 1 6 else if f = 2 then Cal.num false y 2 2 else if f = 3 then Cal.num false y 3 25 else if f = 4 then Cal.num false y 6 24
  else if f = 5 then Cal.num false y 6 29 else if f = 6 then Cal.num false y 8 10 else if f = 7 then Cal.num false y 8 15 else if f = 8 then Cal.num false y 9 29 else if f = 9 then Cal.num false y 11 1
  else if f = 10 then Cal.num false y 11 11 else if f = 11 then Cal.num false y 11 30 else if f = 12 then Cal.num false y 12 6 else if f = 13 then Cal.num false y 12 25
  else if f = 14 then oE y - 46 else if f = 15 then oE y - 7 else if f = 16 then oE y else if f = 17 then oE y + 39 else if f = 18 then oE y + 49 else oE y + 56

theorem mlenN (f : Bool) (y m : Int) (h : m ≠ 2) : Cal.mlen f y m = if m = 4 ∨ m = 6 ∨ m = 9 ∨ m = 11 then 30 else 31 := by simp [Cal.mlen, h]
theorem mlen2 (y : Int) : Cal.mlen false y 2 = 28 + (if Cal.lp false y then 1 else 0) := by simp [Cal.mlen]; split <;> rfl
theorem cums (y : Int) : Cal.cum false y 1 = 0 ∧ Cal.cum false y 2 = 31 ∧ Cal.cum false y 3 = 59 + (if Cal.lp false y then 1 else 0) ∧ Cal.cum false y 6 = 151 + (if Cal.lp false y then 1 else 0) ∧ Cal.cum false y 8 = 212 + (if Cal.lp false y then 1 else 0) ∧
    Cal.cum false y 9 = 243 + (if Cal.lp false y then 1 else 0) ∧ Cal.cum false y 11 = 304 + (if Cal.lp false y then 1 else 0) ∧ Cal.cum false y 12 = 334 + (if Cal.lp false y then 1 else 0) := by
  have c1 := Cal.cum_one false y
  have c2 := Cal.cum_succ false y 1 (by omega)
  have c3 := cum_3 false y
  have c4 := Cal.cum_succ false y 3 (by omega)
  have c5 := Cal.cum_succ false y 4 (by omega)
  have c6 := Cal.cum_succ false y 5 (by omega)
  have c7 := Cal.cum_succ false y 6 (by omega)
  have c8 := Cal.cum_succ false y 7 (by omega)
  have c9 := Cal.cum_succ false y 8 (by omega)
  have c10 := Cal.cum_succ false y 9 (by omega)
  have c11 := Cal.cum_succ false y 10 (by omega)
  have c12 := Cal.cum_succ false y 11 (by omega)
  rw [mlenN _ _ _ (by omega)] at c2 c4 c5 c6 c7 c8 c9 c10 c11 c12
  simp at c2 c4 c5 c6 c7 c8 c9 c10 c11 c12
  omega
/-- A feast falls in its year. -/
theorem fd_in (f y : Int) : Cal.ys false y ≤ fd f y ∧ fd f y < Cal.ys false (y + 1) := by
  obtain ⟨c1, c2, c3, c6, c8, c9, c11, c12⟩ := cums y
  have e := oE_eq y
  have d := delay_bd y
  have g := gap_bd y
  have s := Cal.ys_succ false y
  have t : Cal.num false y 3 21 = Cal.ys false y + Cal.cum false y 3 + 20 := by unfold Cal.num; omega
  unfold fd Cal.num
  have hv : 0 ≤ (if Cal.lp false y then (1 : Int) else 0) ∧ (if Cal.lp false y then (1 : Int) else 0) ≤ 1 := by split <;> omega
  generalize (if Cal.lp false y then (1 : Int) else 0) = v at *
  repeat' split
  all_goals omega
theorem fd_bd (f y : Int) (hy : isY y) : 0 ≤ fd f y ∧ fd f y ≤ 730499 := by
  have h := fd_in f y
  have a := Cal.ys_mono false 1 y hy.1
  have b := Cal.ys_mono false (y + 1) 2001 (by have := hy.2; omega)
  rw [Cal.ys_1] at a
  rw [Cal.ys_2001] at b
  have h1 := hy.1
  have h2 := hy.2
  simp at a b
  omega

/-- A relation and a weekday that are as told. -/
def isR (r k : Int) : Prop := 0 ≤ r ∧ r ≤ 4 ∧ 0 ≤ k ∧ k ≤ 6 ∧ (3 ≤ r ∨ k = 0)
instance (r k : Int) : Decidable (isR r k) := by unfold isR; exact inferInstance
/-- The day with a relation to a day. -/
def rd (r k n : Int) : Int := if r = 1 then n - 1 else if r = 2 then n + 7 else if r = 3 then n + 1 + (k + 14 - (n + 6) % 7) % 7 else if r = 4 then n - 1 - ((n + 11) % 7 + 7 - k) % 7 else n
theorem rd_bd (r k n : Int) : n - 7 ≤ rd r k n ∧ rd r k n ≤ n + 7 := by
  unfold rd
  repeat' split
  all_goals omega
theorem rd_after (k n : Int) (h0 : 0 ≤ k) (h1 : k ≤ 6) : n < rd 3 k n ∧ rd 3 k n ≤ n + 7 ∧ (rd 3 k n + 5) % 7 = k := by
  have e : rd 3 k n = n + 1 + (k + 14 - (n + 6) % 7) % 7 := rfl
  omega
theorem rd_before (k n : Int) (h0 : 0 ≤ k) (h1 : k ≤ 6) : rd 4 k n < n ∧ n - 7 ≤ rd 4 k n ∧ (rd 4 k n + 5) % 7 = k := by
  have e : rd 4 k n = n - 1 - ((n + 11) % 7 + 7 - k) % 7 := rfl
  omega

/-- The feasts on a day of a year, those with numbers before k. -/
def fo (n y : Int) : Nat → List Int
  | 0 => []
  | k + 1 => fo n y k ++ (if fd k y = n then [(k : Int)] else [])
theorem fo_len (n y : Int) (k : Nat) : (fo n y k).length ≤ k := by
  induction k with
  | zero => simp [fo]
  | succ k ih => simp only [fo, List.length_append]; split <;> simp <;> omega
theorem fo_mem (n y : Int) (k : Nat) (x : Int) : x ∈ fo n y k ↔ 0 ≤ x ∧ x < k ∧ fd x y = n := by
  induction k with
  | zero => simp [fo]; omega
  | succ k ih =>
    rw [fo, List.mem_append, ih]
    constructor
    · rintro (h | h)
      · exact ⟨h.1, by omega, h.2.2⟩
      · split at h
        · simp at h; subst h; rename_i e; exact ⟨by omega, by omega, e⟩
        · simp at h
    · rintro ⟨h0, h1, h2⟩
      by_cases e : x < k
      · exact .inl ⟨h0, e, h2⟩
      · have : x = k := by omega
        subst this
        exact .inr (by rw [if_pos h2]; simp)

end Go.Proofs.YtfhcakpmlppbkaaDoor.Fea

namespace Go.Proofs.YtfhcakpmlppbkaaDoor.Fea
open Go.Proofs.YtfhcakpmlppbkaaDoor.Eas (isY oE)

/-- The old year of a day. -/
def yr (n : Int) : Int := (4 * n + 3) / 1461 + 1
theorem ys_old (y : Int) : Cal.ys false y = (y - 1) * 365 + (y - 1) / 4 := by unfold Cal.ys; simp
theorem yr_in (n : Int) : Cal.ys false (yr n) ≤ n ∧ n < Cal.ys false (yr n + 1) := by
  rw [ys_old, ys_old]
  unfold yr
  omega
theorem yr_eq {n y : Int} (h1 : Cal.ys false y ≤ n) (h2 : n < Cal.ys false (y + 1)) : yr n = y := by
  rw [ys_old] at h1 h2
  unfold yr
  omega
theorem yr_isY (n : Int) (h0 : 0 ≤ n) (h1 : n ≤ 730499) : isY (yr n) := by
  unfold yr isY
  omega
theorem yr_num {n y m d : Int} (hv : Cal.valid false y m d) (hn : Cal.num false y m d = n) : yr n = y := by
  have h := Cal.num_in false hv
  rw [hn] at h
  exact yr_eq h.1 h.2
theorem yr_fd (f y : Int) : yr (fd f y) = y := yr_eq (fd_in f y).1 (fd_in f y).2

/-- The feasts on a day. -/
def fon (n : Int) : List Int := fo n (yr n) 20
theorem fon_len (n : Int) : (fon n).length ≤ 20 := fo_len _ _ _
theorem fon_mem (n x : Int) : x ∈ fon n ↔ isF x ∧ fd x (yr n) = n := by
  unfold fon
  rw [fo_mem]
  unfold isF
  constructor
  · rintro ⟨h0, h1, h2⟩; exact ⟨⟨h0, by omega⟩, h2⟩
  · rintro ⟨⟨h0, h1⟩, h2⟩; exact ⟨h0, by omega, h2⟩
theorem fon_fd (f y : Int) (hf : isF f) : f ∈ fon (fd f y) := by
  rw [fon_mem]
  exact ⟨hf, by rw [yr_fd]⟩

/-! ### the next feast -/
/-- d is the first day from n on with a feast, x the least number of one on it. -/
def NextIs (n d x : Int) : Prop := n ≤ d ∧ d ≤ 730499 ∧ (∃ r, fon d = x :: r) ∧ ∀ m, n ≤ m → m < d → fon m = []
def NextNo (n : Int) : Prop := ∀ m, n ≤ m → m ≤ 730499 → fon m = []
theorem NextIs.uniq {n d x d' x' : Int} (h : NextIs n d x) (h' : NextIs n d' x') : d = d' ∧ x = x' := by
  obtain ⟨h1, h2, ⟨r, h3⟩, h4⟩ := h
  obtain ⟨k1, k2, ⟨r', k3⟩, k4⟩ := h'
  have e : d = d' := by
    rcases Int.lt_trichotomy d d' with h | h | h
    · have := k4 d h1 h; rw [h3] at this; cases this
    · exact h
    · have := h4 d' k1 h; rw [k3] at this; cases this
  subst e
  rw [h3] at k3
  injection k3 with e1 _
  exact ⟨rfl, e1⟩
theorem NextIs.no {n d x : Int} (h : NextIs n d x) (h' : NextNo n) : False := by
  obtain ⟨h1, h2, ⟨r, h3⟩, h4⟩ := h
  have := h' d h1 h2
  rw [h3] at this
  cases this
/-- What NextFeast answers. -/
def NextAns (n d x c : Int) : Prop := (0 ≤ n ∧ n ≤ 730499 ∧ c = 0 ∧ NextIs n d x) ∨ (0 ≤ n ∧ n ≤ 730499 ∧ c = 4 ∧ d = 0 ∧ x = 0 ∧ NextNo n) ∨ (¬ (0 ≤ n ∧ n ≤ 730499) ∧ c = 2 ∧ d = 0 ∧ x = 0)
theorem NextAns.uniq {n d x c d' x' c' : Int} (h : NextAns n d x c) (h' : NextAns n d' x' c') : d = d' ∧ x = x' ∧ c = c' := by
  rcases h with ⟨h1, h2, h3, h4⟩ | ⟨h1, h2, h3, h4, h5, h6⟩ | ⟨h1, h3, h4, h5⟩ <;> rcases h' with ⟨k1, k2, k3, k4⟩ | ⟨k1, k2, k3, k4, k5, k6⟩ | ⟨k1, k3, k4, k5⟩
  · obtain ⟨e1, e2⟩ := h4.uniq k4; exact ⟨e1, e2, by omega⟩
  · exact (h4.no k6).elim
  · exact (k1 ⟨h1, h2⟩).elim
  · exact (k4.no h6).elim
  · exact ⟨by omega, by omega, by omega⟩
  · exact (k1 ⟨h1, h2⟩).elim
  · exact (h1 ⟨k1, k2⟩).elim
  · exact (h1 ⟨k1, k2⟩).elim
  · exact ⟨by omega, by omega, by omega⟩

/-! ### the nearest feast -/
/-- Feast f, d days before the day, is told rather than feast b, a days before it. -/
def bet (d f a b : Int) : Prop := max d (-d) < max a (-a) ∨ (max d (-d) = max a (-a) ∧ (d > a ∨ (d = a ∧ f < b)))
theorem bet_tot {d f a b : Int} (h : ¬ bet d f a b) (h' : ¬ bet a b d f) : d = a ∧ f = b := by
  unfold bet at h h'
  omega
theorem bet_trans {d f a b a' b' : Int} (h : bet d f a b) (h' : ¬ bet a' b' a b) : ¬ bet a' b' d f := by
  unfold bet at *
  omega
/-- Feasts b that are seen before feast f of the year y, from the year y0 on, a days before the day n. -/
def Cand (n y0 y f b a : Int) : Prop := ∃ y', ((y0 ≤ y' ∧ y' < y ∧ 0 ≤ b ∧ b < 20) ∨ (y' = y ∧ y0 ≤ y ∧ 0 ≤ b ∧ b < f)) ∧ a = n - fd b y'
def Best (n y0 y f b a : Int) : Prop := Cand n y0 y f b a ∧ ∀ b' a', Cand n y0 y f b' a' → ¬ bet a' b' a b
theorem Best.uniq {n y0 y f b a b' a' : Int} (h : Best n y0 y f b a) (h' : Best n y0 y f b' a') : b = b' ∧ a = a' := by
  obtain ⟨e1, e2⟩ := bet_tot (h'.2 b a h.1) (h.2 b' a' h'.1)
  exact ⟨e2, e1⟩
theorem cand_none (n y0 b a : Int) : ¬ Cand n y0 y0 0 b a := by
  rintro ⟨y', h, -⟩
  omega
theorem cand_step {n y0 y f b a : Int} (_hf : 0 ≤ f) (hy : y0 ≤ y) : Cand n y0 y (f + 1) b a ↔ Cand n y0 y f b a ∨ (b = f ∧ a = n - fd f y) := by
  constructor
  · rintro ⟨y', h, e⟩
    by_cases hb : b = f ∧ y' = y
    · obtain ⟨rfl, rfl⟩ := hb; exact .inr ⟨rfl, e⟩
    · exact .inl ⟨y', by omega, e⟩
  · rintro (⟨y', h, e⟩ | ⟨rfl, e⟩)
    · exact ⟨y', by omega, e⟩
    · exact ⟨y, by omega, e⟩
theorem cand_year {n y0 y b a : Int} (hy : y0 ≤ y) : Cand n y0 (y + 1) 0 b a ↔ Cand n y0 y 20 b a := by
  constructor
  · rintro ⟨y', h, e⟩; exact ⟨y', by omega, e⟩
  · rintro ⟨y', h, e⟩; exact ⟨y', by omega, e⟩
theorem best_year {n y0 y b a : Int} (hy : y0 ≤ y) (h : Best n y0 y 20 b a) : Best n y0 (y + 1) 0 b a :=
  ⟨(cand_year hy).2 h.1, fun b' a' k => h.2 b' a' ((cand_year hy).1 k)⟩
theorem best_take {n y0 y f b a : Int} (hf : 0 ≤ f) (hy : y0 ≤ y) (h : Best n y0 y f b a) (hb : bet (n - fd f y) f a b) : Best n y0 y (f + 1) f (n - fd f y) := by
  refine ⟨(cand_step hf hy).2 (.inr ⟨rfl, rfl⟩), fun b' a' k => ?_⟩
  rcases (cand_step hf hy).1 k with k | ⟨rfl, rfl⟩
  · exact bet_trans hb (h.2 b' a' k)
  · unfold bet; omega
theorem best_leave {n y0 y f b a : Int} (hf : 0 ≤ f) (hy : y0 ≤ y) (h : Best n y0 y f b a) (hb : ¬ bet (n - fd f y) f a b) : Best n y0 y (f + 1) b a := by
  refine ⟨(cand_step hf hy).2 (.inl h.1), fun b' a' k => ?_⟩
  rcases (cand_step hf hy).1 k with k | ⟨rfl, rfl⟩
  · exact h.2 b' a' k
  · exact hb
theorem best_first {n y0 : Int} : Best n y0 y0 (0 + 1) 0 (n - fd 0 y0) := by
  refine ⟨⟨y0, by omega, rfl⟩, fun b' a' k => ?_⟩
  rcases (cand_step (by omega) (by omega)).1 k with k | ⟨rfl, rfl⟩
  · exact (cand_none _ _ _ _ k).elim
  · unfold bet; omega
/-- The first and the last year whose feasts are looked at. -/
def y0 (n : Int) : Int := max 1 (yr n - 1)
def y1 (n : Int) : Int := min 2000 (yr n + 1)
/-- What NearestFeast answers. -/
def NearAns (n b a c : Int) : Prop := (0 ≤ n ∧ n ≤ 730499 ∧ c = 0 ∧ Best n (y0 n) (y1 n + 1) 0 b a) ∨ (¬ (0 ≤ n ∧ n ≤ 730499) ∧ c = 2 ∧ b = 0 ∧ a = 0)
theorem NearAns.uniq {n b a c b' a' c' : Int} (h : NearAns n b a c) (h' : NearAns n b' a' c') : b = b' ∧ a = a' ∧ c = c' := by
  rcases h with ⟨h1, h2, h3, h4⟩ | ⟨h1, h3, h4, h5⟩ <;> rcases h' with ⟨k1, k2, k3, k4⟩ | ⟨k1, k3, k4, k5⟩
  · obtain ⟨e1, e2⟩ := h4.uniq k4; exact ⟨e1, e2, by omega⟩
  · exact (k1 ⟨h1, h2⟩).elim
  · exact (h1 ⟨k1, k2⟩).elim
  · exact ⟨by omega, by omega, by omega⟩
/-- No feast is nearer than the nearest: here the next one. -/
theorem near_next {n b a d x : Int} (h0 : 0 ≤ n) (h1 : n ≤ 730499) (h : Best n (y0 n) (y1 n + 1) 0 b a) (hn : NextIs n d x) : max a (-a) ≤ d - n := by
  obtain ⟨k1, k2, ⟨r, k3⟩, k4⟩ := hn
  have hx : x ∈ fon d := by rw [k3]; exact List.mem_cons_self ..
  obtain ⟨hf, hd⟩ := (fon_mem d x).1 hx
  have hyd : yr n ≤ yr d := by unfold yr; omega
  have hyd2 : yr d ≤ yr n + 1 := by
    -- January 1 of the next year is a feast
    by_cases hc : yr d ≤ yr n + 1
    · exact hc
    · have e := fon_fd 0 (yr n + 1) ⟨by omega, by omega⟩
      have i1 := fd_in 0 (yr n + 1)
      have i2 := yr_in n
      have i3 := yr_in d
      have e0 : fd 0 (yr n + 1) = Cal.ys false (yr n + 1) := by unfold fd Cal.num; rw [if_pos rfl, Cal.cum_one]; omega
      have i4 := Cal.ys_mono false (yr n + 1 + 1) (yr d) (by omega)
      have := k4 (fd 0 (yr n + 1)) (by omega) (by omega)
      rw [this] at e
      cases e
  have hd2 : yr d ≤ 2000 := (yr_isY d (by omega) k2).2
  have hn1 : 1 ≤ yr n := (yr_isY n h0 h1).1
  have hc := h.2 x (n - d) ⟨yr d, .inl ⟨by unfold y0; omega, by unfold y1; omega, hf.1, by have := hf.2; omega⟩, by rw [hd]⟩
  unfold bet at hc
  omega
/-- The nearest feast is on the day that is told. -/
theorem near_on {n b a : Int} (h : Best n (y0 n) (y1 n + 1) 0 b a) : b ∈ fon (n - a) := by
  obtain ⟨⟨y', hc, e⟩, -⟩ := h
  have : n - a = fd b y' := by omega
  rw [this]
  exact fon_fd b y' ⟨by omega, by omega⟩

end Go.Proofs.YtfhcakpmlppbkaaDoor.Fea
