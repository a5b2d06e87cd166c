/- The mathematics of feasts: the year of a day, the next feast, the nearest one. -/
import Derived.Test.YtfhcakpmlppbkaaFeaM
namespace Go.Proofs.Ytfhcakpmlppbkaa.Fea
open Go.Proofs.Ytfhcakpmlppbkaa.Eas (isY oE)

/-- The old year of a day. -/
def yr (n : Int) : Int := (4 * n + 3) / 1461 + 1
theorem ys_old (y : Int) : Cal.ys false y = (y - 1) * 365 + (y - 1) / 4 := by unfold Cal.ys; simp
theorem yr_in (n : Int) : Cal.ys false (yr n) ≤ n ∧ n < Cal.ys false (yr n + 1) := by
  rw [ys_old, ys_old]
  unfold yr
  omega
theorem yr_eq {n y : Int} (h1 : Cal.ys false y ≤ n) (h2 : n < Cal.ys false (y + 1)) : yr n = y := by
  rw [ys_old] at h1 h2
  unfold yr
  omega
theorem yr_isY (n : Int) (h0 : 0 ≤ n) (h1 : n ≤ 730499) : isY (yr n) := by
  unfold yr isY
  omega
theorem yr_num {n y m d : Int} (hv : Cal.valid false y m d) (hn : Cal.num false y m d = n) : yr n = y := by
  have h := Cal.num_in false hv
  rw [hn] at h
  exact yr_eq h.1 h.2
theorem yr_fd (f y : Int) : yr (fd f y) = y := yr_eq (fd_in f y).1 (fd_in f y).2

/-- The feasts on a day. -/
def fon (n : Int) : List Int := fo n (yr n) 20
theorem fon_len (n : Int) : (fon n).length ≤ 20 := fo_len _ _ _
theorem fon_mem (n x : Int) : x ∈ fon n ↔ isF x ∧ fd x (yr n) = n := by
  unfold fon
  rw [fo_mem]
  unfold isF
  constructor
  · rintro ⟨h0, h1, h2⟩; exact ⟨⟨h0, by omega⟩, h2⟩
  · rintro ⟨⟨h0, h1⟩, h2⟩; exact ⟨h0, by omega, h2⟩
theorem fon_fd (f y : Int) (hf : isF f) : f ∈ fon (fd f y) := by
  rw [fon_mem]
  exact ⟨hf, by rw [yr_fd]⟩

/-! ### the next feast -/
/-- d is the first day from n on with a feast, x the least number of one on it. -/
def NextIs (n d x : Int) : Prop := n ≤ d ∧ d ≤ 730499 ∧ (∃ r, fon d = x :: r) ∧ ∀ m, n ≤ m → m < d → fon m = []
def NextNo (n : Int) : Prop := ∀ m, n ≤ m → m ≤ 730499 → fon m = []
theorem NextIs.uniq {n d x d' x' : Int} (h : NextIs n d x) (h' : NextIs n d' x') : d = d' ∧ x = x' := by
  obtain ⟨h1, h2, ⟨r, h3⟩, h4⟩ := h
  obtain ⟨k1, k2, ⟨r', k3⟩, k4⟩ := h'
  have e : d = d' := by
    rcases Int.lt_trichotomy d d' with h | h | h
    · have := k4 d h1 h; rw [h3] at this; cases this
    · exact h
    · have := h4 d' k1 h; rw [k3] at this; cases this
  subst e
  rw [h3] at k3
  injection k3 with e1 _
  exact ⟨rfl, e1⟩
theorem NextIs.no {n d x : Int} (h : NextIs n d x) (h' : NextNo n) : False := by
  obtain ⟨h1, h2, ⟨r, h3⟩, h4⟩ := h
  have := h' d h1 h2
  rw [h3] at this
  cases this
/-- What NextFeast answers. -/
def NextAns (n d x c : Int) : Prop := (0 ≤ n ∧ n ≤ 730499 ∧ c = 0 ∧ NextIs n d x) ∨ (0 ≤ n ∧ n ≤ 730499 ∧ c = 4 ∧ d = 0 ∧ x = 0 ∧ NextNo n) ∨ (¬ (0 ≤ n ∧ n ≤ 730499) ∧ c = 2 ∧ d = 0 ∧ x = 0)
theorem NextAns.uniq {n d x c d' x' c' : Int} (h : NextAns n d x c) (h' : NextAns n d' x' c') : d = d' ∧ x = x' ∧ c = c' := by
  rcases h with ⟨h1, h2, h3, h4⟩ | ⟨h1, h2, h3, h4, h5, h6⟩ | ⟨h1, h3, h4, h5⟩ <;> rcases h' with ⟨k1, k2, k3, k4⟩ | ⟨k1, k2, k3, k4, k5, k6⟩ | ⟨k1, k3, k4, k5⟩
  · obtain ⟨e1, e2⟩ := h4.uniq k4; exact ⟨e1, e2, by omega⟩
  · exact (h4.no k6).elim
  · exact (k1 ⟨h1, h2⟩).elim
  · exact (k4.no h6).elim
  · exact ⟨by omega, by omega, by omega⟩
  · exact (k1 ⟨h1, h2⟩).elim
  · exact (h1 ⟨k1, k2⟩).elim
  · exact (h1 ⟨k1, k2⟩).elim
  · exact ⟨by omega, by omega, by omega⟩

/-! ### the nearest feast -/
/-- Feast f, d days before the day, is told rather than feast b, a days before it. -/
def bet (d f a b : Int) : Prop := max d (-d) < max a (-a) ∨ (max d (-d) = max a (-a) ∧ (d > a ∨ (d = a ∧ f < b)))
theorem bet_tot {d f a b : Int} (h : ¬ bet d f a b) (h' : ¬ bet a b d f) : d = a ∧ f = b := by
  unfold bet at h h'
  omega
theorem bet_trans {d f a b a' b' : Int} (h : bet d f a b) (h' : ¬ bet a' b' a b) : ¬ bet a' b' d f := by
  unfold bet at *
  omega
/-- Feasts b that are seen before feast f of the year y, from the year y0 on, a days before the day n. -/
def Cand (n y0 y f b a : Int) : Prop := ∃ y', ((y0 ≤ y' ∧ y' < y ∧ 0 ≤ b ∧ b < 20) ∨ (y' = y ∧ y0 ≤ y ∧ 0 ≤ b ∧ b < f)) ∧ a = n - fd b y'
def Best (n y0 y f b a : Int) : Prop := Cand n y0 y f b a ∧ ∀ b' a', Cand n y0 y f b' a' → ¬ bet a' b' a b
theorem Best.uniq {n y0 y f b a b' a' : Int} (h : Best n y0 y f b a) (h' : Best n y0 y f b' a') : b = b' ∧ a = a' := by
  obtain ⟨e1, e2⟩ := bet_tot (h'.2 b a h.1) (h.2 b' a' h'.1)
  exact ⟨e2, e1⟩
theorem cand_none (n y0 b a : Int) : ¬ Cand n y0 y0 0 b a := by
  rintro ⟨y', h, -⟩
  omega
theorem cand_step {n y0 y f b a : Int} (_hf : 0 ≤ f) (hy : y0 ≤ y) : Cand n y0 y (f + 1) b a ↔ Cand n y0 y f b a ∨ (b = f ∧ a = n - fd f y) := by
  constructor
  · rintro ⟨y', h, e⟩
    by_cases hb : b = f ∧ y' = y
    · obtain ⟨rfl, rfl⟩ := hb; exact .inr ⟨rfl, e⟩
    · exact .inl ⟨y', by omega, e⟩
  · rintro (⟨y', h, e⟩ | ⟨rfl, e⟩)
    · exact ⟨y', by omega, e⟩
    · exact ⟨y, by omega, e⟩
theorem cand_year {n y0 y b a : Int} (hy : y0 ≤ y) : Cand n y0 (y + 1) 0 b a ↔ Cand n y0 y 20 b a := by
  constructor
  · rintro ⟨y', h, e⟩; exact ⟨y', by omega, e⟩
  · rintro ⟨y', h, e⟩; exact ⟨y', by omega, e⟩
theorem best_year {n y0 y b a : Int} (hy : y0 ≤ y) (h : Best n y0 y 20 b a) : Best n y0 (y + 1) 0 b a :=
  ⟨(cand_year hy).2 h.1, fun b' a' k => h.2 b' a' ((cand_year hy).1 k)⟩
theorem best_take {n y0 y f b a : Int} (hf : 0 ≤ f) (hy : y0 ≤ y) (h : Best n y0 y f b a) (hb : bet (n - fd f y) f a b) : Best n y0 y (f + 1) f (n - fd f y) := by
  refine ⟨(cand_step hf hy).2 (.inr ⟨rfl, rfl⟩), fun b' a' k => ?_⟩
  rcases (cand_step hf hy).1 k with k | ⟨rfl, rfl⟩
  · exact bet_trans hb (h.2 b' a' k)
  · unfold bet; omega
theorem best_leave {n y0 y f b a : Int} (hf : 0 ≤ f) (hy : y0 ≤ y) (h : Best n y0 y f b a) (hb : ¬ bet (n - fd f y) f a b) : Best n y0 y (f + 1) b a := by
  refine ⟨(cand_step hf hy).2 (.inl h.1), fun b' a' k => ?_⟩
  rcases (cand_step hf hy).1 k with k | ⟨rfl, rfl⟩
  · exact h.2 b' a' k
  · exact hb
theorem best_first {n y0 : Int} : Best n y0 y0 (0 + 1) 0 (n - fd 0 y0) := by
  refine ⟨⟨y0, by omega, rfl⟩, fun b' a' k => ?_⟩
  rcases (cand_step (by omega) (by omega)).1 k with k | ⟨rfl, rfl⟩
  · exact (cand_none _ _ _ _ k).elim
  · unfold bet; omega
/-- The first and the last year whose feasts are looked at. -/
def y0 (n : Int) : Int := max 1 (yr n - 1)
def y1 (n : Int) : Int := min 2000 (yr n + 1)
/-- What NearestFeast answers. -/
def NearAns (n b a c : Int) : Prop := (0 ≤ n ∧ n ≤ 730499 ∧ c = 0 ∧ Best n (y0 n) (y1 n + 1) 0 b a) ∨ (¬ (0 ≤ n ∧ n ≤ 730499) ∧ c = 2 ∧ b = 0 ∧ a = 0)
theorem NearAns.uniq {n b a c b' a' c' : Int} (h : NearAns n b a c) (h' : NearAns n b' a' c') : b = b' ∧ a = a' ∧ c = c' := by
  rcases h with ⟨h1, h2, h3, h4⟩ | ⟨h1, h3, h4, h5⟩ <;> rcases h' with ⟨k1, k2, k3, k4⟩ | ⟨k1, k3, k4, k5⟩
  · obtain ⟨e1, e2⟩ := h4.uniq k4; exact ⟨e1, e2, by omega⟩
  · exact (k1 ⟨h1, h2⟩).elim
  · exact (h1 ⟨k1, k2⟩).elim
  · exact ⟨by omega, by omega, by omega⟩
/-- No feast is nearer than the nearest: here the next one. -/
theorem near_next {n b a d x : Int} (h0 : 0 ≤ n) (h1 : n ≤ 730499) (h : Best n (y0 n) (y1 n + 1) 0 b a) (hn : NextIs n d x) : max a (-a) ≤ d - n := by
  obtain ⟨k1, k2, ⟨r, k3⟩, k4⟩ := hn
  have hx : x ∈ fon d := by rw [k3]; exact List.mem_cons_self ..
  obtain ⟨hf, hd⟩ := (fon_mem d x).1 hx
  have hyd : yr n ≤ yr d := by unfold yr; omega
  have hyd2 : yr d ≤ yr n + 1 := by
    -- January 1 of the next year is a feast
    by_cases hc : yr d ≤ yr n + 1
    · exact hc
    · have e := fon_fd 0 (yr n + 1) ⟨by omega, by omega⟩
      have i1 := fd_in 0 (yr n + 1)
      have i2 := yr_in n
      have i3 := yr_in d
      have e0 : fd 0 (yr n + 1) = Cal.ys false (yr n + 1) := by unfold fd Cal.num; rw [if_pos rfl, Cal.cum_one]; omega
      have i4 := Cal.ys_mono false (yr n + 1 + 1) (yr d) (by omega)
      have := k4 (fd 0 (yr n + 1)) (by omega) (by omega)
      rw [this] at e
      cases e
  have hd2 : yr d ≤ 2000 := (yr_isY d (by omega) k2).2
  have hn1 : 1 ≤ yr n := (yr_isY n h0 h1).1
  have hc := h.2 x (n - d) ⟨yr d, .inl ⟨by unfold y0; omega, by unfold y1; omega, hf.1, by have := hf.2; omega⟩, by rw [hd]⟩
  unfold bet at hc
  omega
/-- The nearest feast is on the day that is told. -/
theorem near_on {n b a : Int} (h : Best n (y0 n) (y1 n + 1) 0 b a) : b ∈ fon (n - a) := by
  obtain ⟨⟨y', hc, e⟩, -⟩ := h
  have : n - a = fd b y' := by omega
  rw [this]
  exact fon_fd b y' ⟨by omega, by omega⟩

end Go.Proofs.Ytfhcakpmlppbkaa.Fea
