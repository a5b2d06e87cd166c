/- Texts of a claim in one file: FeaN ReiM. -/
import Derived.Test.YtfhcakpmlppbkaaGreatDoorGrpAe
namespace Go.Proofs.YtfhcakpmlppbkaaGreatDoor.Fea
open Go.Proofs.YtfhcakpmlppbkaaGreatDoor.Eas (isY oE)

/-- The old year of a day. -/
def yr (n : Int) : Int := (4 * n + 3) / 1461 + 1
theorem ys_old (y : Int) : Cal.ys false y = (y - 1) * 365 + (y - 1) / 4 := by unfold Cal.ys; simp
theorem yr_in (n : Int) : Cal.ys false (yr n) ≤ n ∧ n < Cal.ys false (yr n + 1) := by
  rw [ys_old, ys_old]
  unfold yr
  omega
theorem yr_eq {n y : Int} (h1 : Cal.ys false y ≤ n) (h2 : n < Cal.ys false (y + 1)) : yr n = y := by
  rw [ys_old] at h1 h2
  unfold yr
  omega
theorem yr_isY (n : Int) (h0 : 0 ≤ n) (h1 : n ≤ 730499) : isY (yr n) := by
  unfold yr isY
  omega
theorem yr_num {n y m d : Int} (hv : Cal.valid false y m d) (hn : Cal.num false y m d = n) : yr n = y := by
  have h := Cal.num_in false hv
  rw [hn] at h
  exact yr_eq h.1 h.2
theorem yr_fd (f y : Int) : yr (fd f y) = y := yr_eq (fd_in f y).1 (fd_in f y).2

/-- The feasts on a day. -/
def fon (n : Int) : List Int := fo n (yr n) 20
theorem fon_len (n : Int) : (fon n).length ≤ 20 := fo_len _ _ _
theorem fon_mem (n x : Int) : x ∈ fon n ↔ isF x ∧ fd x (yr n) = n := by
  unfold fon
  rw [fo_mem]
  unfold isF
  constructor
  · rintro ⟨h0, h1, h2⟩; exact ⟨⟨h0, by omega⟩, h2⟩
  · rintro ⟨⟨h0, h1⟩, h2⟩; exact ⟨h0, by omega, h2⟩
theorem fon_fd (f y : Int) (hf : isF f) : f ∈ fon (fd f y) := by
  rw [fon_mem]
  exact ⟨hf, by rw [yr_fd]⟩

/-! ### the next feast -/
/-- d is the first day from n on with a feast, x the least number of one on it. -/
def NextIs (n d x : Int) : Prop := n ≤ d ∧ d ≤ 730499 ∧ (∃ r, fon d = x :: r) ∧ ∀ m, n ≤ m → m < d → fon m = []
def NextNo (n : Int) : Prop := ∀ m, n ≤ m → m ≤ 730499 → fon m = []
theorem NextIs.uniq {n d x d' x' : Int} (h : NextIs n d x) (h' : NextIs n d' x') : d = d' ∧ x = x' := by
  obtain ⟨h1, h2, ⟨r, h3⟩, h4⟩ := h
  obtain ⟨k1, k2, ⟨r', k3⟩, k4⟩ := h'
  have e : d = d' := by
    rcases Int.lt_trichotomy d d' with h | h | h
    · have := k4 d h1 h; rw [h3] at this; cases this
    · exact h
    · have := h4 d' k1 h; rw [k3] at this; cases this
  subst e
  rw [h3] at k3
  injection k3 with e1 _
  exact ⟨rfl, e1⟩
theorem NextIs.no {n d x : Int} (h : NextIs n d x) (h' : NextNo n) : False := by
  obtain ⟨h1, h2, ⟨r, h3⟩, h4⟩ := h
  have := h' d h1 h2
  rw [h3] at this
  cases this
/-- What NextFeast answers. -/
def NextAns (n d x c : Int) : Prop := (0 ≤ n ∧ n ≤ 730499 ∧ c = 0 ∧ NextIs n d x) ∨ (0 ≤ n ∧ n ≤ 730499 ∧ c = 4 ∧ d = 0 ∧ x = 0 ∧ NextNo n) ∨ (¬ (0 ≤ n ∧ n ≤ 730499) ∧ c = 2 ∧ d = 0 ∧ x = 0)
theorem NextAns.uniq {n d x c d' x' c' : Int} (h : NextAns n d x c) (h' : NextAns n d' x' c') : d = d' ∧ x = x' ∧ c = c' := by
  rcases h with ⟨h1, h2, h3, h4⟩ | ⟨h1, h2, h3, h4, h5, h6⟩ | ⟨h1, h3, h4, h5⟩ <;> rcases h' with ⟨k1, k2, k3, k4⟩ | ⟨k1, k2, k3, k4, k5, k6⟩ | ⟨k1, k3, k4, k5⟩
  · obtain ⟨e1, e2⟩ := h4.uniq k4; exact ⟨e1, e2, by omega⟩
  · exact (h4.no k6).elim
  · exact (k1 ⟨h1, h2⟩).elim
  · exact (k4.no h6).elim
  · exact ⟨by omega, by omega, by omega⟩
  · exact (k1 ⟨h1, h2⟩).elim
  · exact (h1 ⟨k1, k2⟩).elim
  · exact (h1 ⟨k1, k2⟩).elim
  · exact ⟨by omega, by omega, by omega⟩

/-! ### the nearest feast -/
/-- Feast f, d days before the day, is told rather than feast b, a days before it. -/
def bet (d f a b : Int) : Prop := max d (-d) < max a (-a) ∨ (max d (-d) = max a (-a) ∧ (d > a ∨ (d = a ∧ f < b)))
theorem bet_tot {d f a b : Int} (h : ¬ bet d f a b) (h' : ¬ bet a b d f) : d = a ∧ f = b := by
  unfold bet at h h'
  omega
theorem bet_trans {d f a b a' b' : Int} (h : bet d f a b) (h' : ¬ bet a' b' a b) : ¬ bet a' b' d f := by
  unfold bet at *
  omega
/-- Feasts b that are seen before feast f of the year y, from the year y0 on, a days before the day n. -/
def Cand (n y0 y f b a : Int) : Prop := ∃ y', ((y0 ≤ y' ∧ y' < y ∧ 0 ≤ b ∧ b < 20) ∨ (y' = y ∧ y0 ≤ y ∧ 0 ≤ b ∧ b < f)) ∧ a = n - fd b y'
def Best (n y0 y f b a : Int) : Prop := Cand n y0 y f b a ∧ ∀ b' a', Cand n y0 y f b' a' → ¬ bet a' b' a b
theorem Best.uniq {n y0 y f b a b' a' : Int} (h : Best n y0 y f b a) (h' : Best n y0 y f b' a') : b = b' ∧ a = a' := by
  obtain ⟨e1, e2⟩ := bet_tot (h'.2 b a h.1) (h.2 b' a' h'.1)
  exact ⟨e2, e1⟩
theorem cand_none (n y0 b a : Int) : ¬ Cand n y0 y0 0 b a := by
  rintro ⟨y', h, -⟩
  omega
theorem cand_step {n y0 y f b a : Int} (_hf : 0 ≤ f) (hy : y0 ≤ y) : Cand n y0 y (f + 1) b a ↔ Cand n y0 y f b a ∨ (b = f ∧ a = n - fd f y) := by
  constructor
  · rintro ⟨y', h, e⟩
    by_cases hb : b = f ∧ y' = y
    · obtain ⟨rfl, rfl⟩ := hb; exact .inr ⟨rfl, e⟩
    · exact .inl ⟨y', by omega, e⟩
  · rintro (⟨y', h, e⟩ | ⟨rfl, e⟩)
    · exact ⟨y', by omega, e⟩
    · exact ⟨y, by omega, e⟩
theorem cand_year {n y0 y b a : Int} (hy : y0 ≤ y) : Cand n y0 (y + 1) 0 b a ↔ Cand n y0 y 20 b a := by
  constructor
  · rintro ⟨y', h, e⟩; exact ⟨y', by omega, e⟩
  · rintro ⟨y', h, e⟩; exact ⟨y', by omega, e⟩
theorem best_year {n y0 y b a : Int} (hy : y0 ≤ y) (h : Best n y0 y 20 b a) : Best n y0 (y + 1) 0 b a :=
  ⟨(cand_year hy).2 h.1, fun b' a' k => h.2 b' a' ((cand_year hy).1 k)⟩
theorem best_take {n y0 y f b a : Int} (hf : 0 ≤ f) (hy : y0 ≤ y) (h : Best n y0 y f b a) (hb : bet (n - fd f y) f a b) : Best n y0 y (f + 1) f (n - fd f y) := by
  refine ⟨(cand_step hf hy).2 (.inr ⟨rfl, rfl⟩), fun b' a' k => ?_⟩
  rcases (cand_step hf hy).1 k with k | ⟨rfl, rfl⟩
  · exact bet_trans hb (h.2 b' a' k)
  · unfold bet; omega
theorem best_leave {n y0 y f b a : Int} (hf : 0 ≤ f) (hy : y0 ≤ y) (h : Best n y0 y f b a) (hb : ¬ bet (n - fd f y) f a b) : Best n y0 y (f + 1) b a := by
  refine ⟨(cand_step hf hy).2 (.inl h.1), fun b' a' k => ?_⟩
  rcases (cand_step hf hy).1 k with k | ⟨rfl, rfl⟩
  · exact h.2 b' a' k
  · exact hb
theorem best_first {n y0 : Int} : Best n y0 y0 (0 + 1) 0 (n - fd 0 y0) := by
  refine ⟨⟨y0, by omega, rfl⟩, fun b' a' k => ?_⟩
  rcases (cand_step (by omega) (by omega)).1 k with k | ⟨rfl, rfl⟩
  · exact (cand_none _ _ _ _ k).elim
  · unfold bet; omega
/-- The first and the last year whose feasts are looked at. -/
def y0 (n : Int) : Int := max 1 (yr n - 1)
def y1 (n : Int) : Int := min 2000 (yr n + 1)
/-- What NearestFeast answers. -/
def NearAns (n b a c : Int) : Prop := (0 ≤ n ∧ n ≤ 730499 ∧ c = 0 ∧ Best n (y0 n) (y1 n + 1) 0 b a) ∨ (¬ (0 ≤ n ∧ n ≤ 730499) ∧ c = 2 ∧ b = 0 ∧ a = 0)
theorem NearAns.uniq {n b a c b' a' c' : Int} (h : NearAns n b a c) (h' : NearAns n b' a' c') : b = b' ∧ a = a' ∧ c = c' := by
  rcases h with ⟨h1, h2, h3, h4⟩ | ⟨h1, h3, h4, h5⟩ <;> rcases h' with ⟨k1, k2, k3, k4⟩ | ⟨k1, k3, k4, k5⟩
  · obtain ⟨e1, e2⟩ := h4.uniq k4; exact ⟨e1, e2, by omega⟩
  · exact (k1 ⟨h1, h2⟩).elim
  · exact (h1 ⟨k1, k2⟩).elim
  · exact ⟨by omega, by omega, by omega⟩
/-- No feast is nearer than the nearest: here the next one. -/
theorem near_next {n b a d x : Int} (h0 : 0 ≤ n) (h1 : n ≤ 730499) (h : Best n (y0 n) (y1 n + 1) 0 b a) (hn : NextIs n d x) : max a (-a) ≤ d - n := by
  obtain ⟨k1, k2, ⟨r, k3⟩, k4⟩ := hn
  have hx : x ∈ fon d := by rw [k3]; exact List.mem_cons_self ..
  obtain ⟨hf, hd⟩ := (fon_mem d x).1 hx
  have hyd : yr n ≤ yr d := by unfold yr; omega
  have hyd2 : yr d ≤ yr n + 1 := by
    -- January 1 of the next year is a feast
    by_cases hc : yr d ≤ yr n + 1
    · exact hc
    · have e := fon_fd 0 (yr n + 1) ⟨by omega, by omega⟩
      have i1 := fd_in 0 (yr n + 1)
      have i2 := yr_in n
      have i3 := yr_in d
      have e0 : fd 0 (yr n + 1) = Cal.ys false (yr n + 1) := by unfold fd Cal.num; rw [if_pos rfl, Cal.cum_one]; omega
      have i4 := Cal.ys_mono false (yr n + 1 + 1) (yr d) (by omega)
      have := k4 (fd 0 (yr n + 1)) (by omega) (by omega)
      rw [this] at e
      cases e
  have hd2 : yr d ≤ 2000 := (yr_isY d (by omega) k2).2
  have hn1 : 1 ≤ yr n := (yr_isY n h0 h1).1
  have hc := h.2 x (n - d) ⟨yr d, .inl ⟨by unfold y0; omega, by unfold y1; omega, hf.1, by have := hf.2; omega⟩, by rw [hd]⟩
  unfold bet at hc
  omega
/-- The nearest feast is on the day that is told. -/
theorem near_on {n b a : Int} (h : Best n (y0 n) (y1 n + 1) 0 b a) : b ∈ fon (n - a) := by
  obtain ⟨⟨y', hc, e⟩, -⟩ := h
  have : n - a = fd b y' := by omega
  rw [this]
  exact fon_fd b y' ⟨by omega, by omega⟩

end Go.Proofs.YtfhcakpmlppbkaaGreatDoor.Fea

namespace Go.Proofs.YtfhcakpmlppbkaaGreatDoor.Rei
open Go.Proofs.YtfhcakpmlppbkaaGreatDoor.Eas (isY cum_3)
open Go.Proofs.YtfhcakpmlppbkaaGreatDoor.Fea (mlenN mlen2 ys_old yr yr_in yr_eq yr_isY yr_num)

/-- 1 in a leap year, 0 else. -/
def lv (y : Int) : Int := if Cal.lp false y then 1 else 0
theorem lv_bd (y : Int) : 0 ≤ lv y ∧ lv y ≤ 1 := by unfold lv; split <;> omega
theorem lv_mod (y : Int) : lv y = if y % 4 = 0 then 1 else 0 := by
  unfold lv Cal.lp
  simp
theorem ys_next (y : Int) : Cal.ys false (y + 1) = Cal.ys false y + 365 + lv y := Cal.ys_succ false y
/-- The place of a day in its year, its year's length apart: the place that the same date has in another year. -/
def place (y o y' : Int) : Int := if lv y = 0 then (if 59 ≤ o then o + lv y' else o) else (if o ≤ 59 then o else o - (1 - lv y'))
/-- The day on which the year k of a reign from the day f on begins. -/
def rb (f k : Int) : Int := Cal.ys false (yr f + k - 1) + place (yr f) (f - Cal.ys false (yr f)) (yr f + k - 1)
theorem place_bd (f y' : Int) : 0 ≤ place (yr f) (f - Cal.ys false (yr f)) y' ∧ place (yr f) (f - Cal.ys false (yr f)) y' < 365 + lv y' := by
  have h := yr_in f
  rw [ys_next] at h
  have a := lv_bd (yr f)
  have b := lv_bd y'
  unfold place
  repeat' split
  all_goals omega
theorem rb_in (f k : Int) : Cal.ys false (yr f + k - 1) ≤ rb f k ∧ rb f k < Cal.ys false (yr f + k) := by
  have h := place_bd f (yr f + k - 1)
  have e := ys_next (yr f + k - 1)
  rw [show yr f + k - 1 + 1 = yr f + k by omega] at e
  unfold rb
  omega
theorem rb_one (f : Int) : rb f 1 = f := by
  have h := yr_in f
  rw [ys_next] at h
  have a := lv_bd (yr f)
  unfold rb place
  rw [show yr f + 1 - 1 = yr f by omega]
  repeat' split
  all_goals omega
theorem rb_yr (f k : Int) : yr (rb f k) = yr f + k - 1 := by
  have h := rb_in f k
  exact yr_eq h.1 (by rw [show yr f + k - 1 + 1 = yr f + k by omega]; exact h.2)
theorem rb_lt (f : Int) {k k' : Int} (h : k < k') : rb f k < rb f k' := by
  have a := (rb_in f k).2
  have b := (rb_in f k').1
  have c := Cal.ys_mono false (yr f + k) (yr f + k' - 1) (by omega)
  omega
theorem rb_gap (f k : Int) : rb f k + 365 ≤ rb f (k + 1) ∧ rb f (k + 1) ≤ rb f k + 366 := by
  have e := ys_next (yr f + k - 1)
  have h := yr_in f
  rw [ys_next] at h
  have a := lv_bd (yr f)
  have b := lv_bd (yr f + k - 1)
  have c := lv_bd (yr f + k)
  have m1 := lv_mod (yr f + k - 1)
  have m2 := lv_mod (yr f + k)
  unfold rb place
  rw [show yr f + (k + 1) - 1 = yr f + k by omega, show yr f + k - 1 + 1 = yr f + k by omega] at *
  generalize lv (yr f) = v0 at *
  generalize lv (yr f + k - 1) = v1 at *
  generalize lv (yr f + k) = v2 at *
  have hv : v1 = 0 ∨ v2 = 0 := by
    revert m1 m2
    split <;> split <;> intros <;> omega
  repeat' split
  all_goals omega
set_option maxHeartbeats 2000000 in
/-- What the date k - 1 years later is. -/
theorem rb_date {y m d f : Int} (hv : Cal.valid false y m d) (hn : Cal.num false y m d = f) (k : Int) :
    (if m = 2 ∧ d = 29 ∧ Cal.lp false (y + k - 1) = false then Cal.num false (y + k - 1) 3 1 else Cal.num false (y + k - 1) m d) = rb f k := by
  have hy := yr_num hv hn
  obtain ⟨-, -, m1, m2, d1, d2⟩ := hv
  unfold rb
  rw [hy]
  have e : f = Cal.ys false y + Cal.cum false y m + d - 1 := by rw [← hn]; unfold Cal.num; omega
  subst e
  have key : ∀ z : Int, Cal.cum false z 1 = 0 ∧ Cal.cum false z 2 = 31 ∧ Cal.cum false z 3 = 59 + lv z ∧ Cal.cum false z 4 = 90 + lv z ∧ Cal.cum false z 5 = 120 + lv z ∧ Cal.cum false z 6 = 151 + lv z ∧ Cal.cum false z 7 = 181 + lv z ∧ Cal.cum false z 8 = 212 + lv z ∧ Cal.cum false z 9 = 243 + lv z ∧ Cal.cum false z 10 = 273 + lv z ∧ Cal.cum false z 11 = 304 + lv z ∧ Cal.cum false z 12 = 334 + lv z := by
    intro z
    have c1 := Cal.cum_one false z
    have c3 := cum_3 false z
    have c2 := Cal.cum_succ false z 1 (by omega)
    have c4 := Cal.cum_succ false z 3 (by omega)
    have c5 := Cal.cum_succ false z 4 (by omega)
    have c6 := Cal.cum_succ false z 5 (by omega)
    have c7 := Cal.cum_succ false z 6 (by omega)
    have c8 := Cal.cum_succ false z 7 (by omega)
    have c9 := Cal.cum_succ false z 8 (by omega)
    have c10 := Cal.cum_succ false z 9 (by omega)
    have c11 := Cal.cum_succ false z 10 (by omega)
    have c12 := Cal.cum_succ false z 11 (by omega)
    rw [mlenN _ _ _ (by omega)] at c2 c4 c5 c6 c7 c8 c9 c10 c11 c12
    simp at c2 c4 c5 c6 c7 c8 c9 c10 c11 c12
    unfold lv
    omega
  obtain ⟨a1, a2, a3, a4, a5, a6, a7, a8, a9, a10, a11, a12⟩ := key y
  obtain ⟨b1, b2, b3, b4, b5, b6, b7, b8, b9, b10, b11, b12⟩ := key (y + k - 1)
  have v0 := lv_bd y
  have v1 := lv_bd (y + k - 1)
  have hl : Cal.lp false (y + k - 1) = false ↔ lv (y + k - 1) = 0 := by unfold lv; cases Cal.lp false (y + k - 1) <;> simp
  simp only [hl]
  have hd2 : (m = 2 → d ≤ 28 + lv y) ∧ (m ≠ 2 → d ≤ 31) ∧ (m = 4 ∨ m = 6 ∨ m = 9 ∨ m = 11 → d ≤ 30) := by
    refine ⟨fun e => ?_, fun e => ?_, fun e => ?_⟩
    · subst e; rw [mlen2] at d2; exact d2
    · rw [mlenN _ _ _ e] at d2; split at d2 <;> omega
    · rw [mlenN _ _ _ (by omega), if_pos e] at d2; exact d2
  obtain ⟨hd2, hd3, hd4⟩ := hd2
  clear d2 hl key
  unfold place Cal.num
  generalize lv y = u at *
  generalize lv (y + k - 1) = u' at *
  have h : m = 1 ∨ m = 2 ∨ m = 3 ∨ m = 4 ∨ m = 5 ∨ m = 6 ∨ m = 7 ∨ m = 8 ∨ m = 9 ∨ m = 10 ∨ m = 11 ∨ m = 12 := by omega
  rcases h with rfl | rfl | rfl | rfl | rfl | rfl | rfl | rfl | rfl | rfl | rfl | rfl <;> (repeat' split) <;> omega

/-! ### the year of a day -/
/-- The day n is in the year k. -/
def RyIs (f n k : Int) : Prop := 1 ≤ k ∧ rb f k ≤ n ∧ n < rb f (k + 1)
theorem RyIs.uniq {f n k k' : Int} (h : RyIs f n k) (h' : RyIs f n k') : k = k' := by
  obtain ⟨-, a, b⟩ := h
  obtain ⟨-, a', b'⟩ := h'
  rcases Int.lt_trichotomy k k' with h | h | h
  · by_cases e : k + 1 = k'
    · subst e; omega
    · have := rb_lt f (show k + 1 < k' by omega); omega
  · exact h
  · by_cases e : k' + 1 = k
    · subst e; omega
    · have := rb_lt f (show k' + 1 < k by omega); omega
def ry (f n : Int) : Int := if n < rb f (yr n - yr f + 1) then yr n - yr f else yr n - yr f + 1
theorem yr_le {a b : Int} (h : a ≤ b) : yr a ≤ yr b := by unfold yr; omega
theorem ry_is {f n : Int} (h : f ≤ n) : RyIs f n (ry f n) := by
  have hy := yr_le h
  have r0 := yr_in n
  have r1 := rb_in f (yr n - yr f)
  have r2 := rb_in f (yr n - yr f + 1 + 1)
  rw [show yr f + (yr n - yr f) = yr n by omega] at r1
  rw [show yr f + (yr n - yr f + 1 + 1) - 1 = yr n + 1 by omega] at r2
  unfold ry
  split
  · rename_i hlt
    refine ⟨?_, by omega, hlt⟩
    by_cases k : 0 < yr n - yr f
    · omega
    · exfalso
      have e : yr n - yr f + 1 = 1 := by omega
      rw [e, rb_one] at hlt
      omega
  · rename_i hge
    exact ⟨by omega, by omega, by omega⟩
theorem ry_bd {f n : Int} (h : f ≤ n) : 1 ≤ ry f n ∧ yr n - yr f ≤ ry f n ∧ ry f n ≤ yr n - yr f + 1 := by
  have := (ry_is h).1
  unfold ry at *
  split at * <;> omega

end Go.Proofs.YtfhcakpmlppbkaaGreatDoor.Rei
