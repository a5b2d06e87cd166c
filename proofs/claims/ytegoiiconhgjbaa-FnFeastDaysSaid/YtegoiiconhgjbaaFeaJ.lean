/- The mathematics of lists of the days of feasts: the least of them by an order, the days of a relation as a set. -/
import Derived.Test.YtegoiiconhgjbaaFeaO
namespace Go.Proofs.Ytegoiiconhgjbaa.Fea
open Go.Proofs.Ytegoiiconhgjbaa.Eas (isY oE oE_eq num_321 delay_bd gap_bd)
open Go.Proofs.Ytegoiiconhgjbaa.Sets (ok NF)

/-- The feasts of a year with numbers before k, each with its day. -/
def fds (y : Int) : Nat → List (Int × Int)
  | 0 => []
  | k + 1 => fds y k ++ [((k : Int), fd k y)]
/-- The feasts of j years from Y0 on. -/
def fdy (Y0 : Int) : Nat → List (Int × Int)
  | 0 => []
  | j + 1 => fdy Y0 j ++ fds (Y0 + j) 20
theorem fds_len (y : Int) (k : Nat) : (fds y k).length = k := by
  induction k with
  | zero => rfl
  | succ k ih => rw [fds, List.length_append, ih]; rfl
theorem fdy_len (Y0 : Int) (j : Nat) : (fdy Y0 j).length = 20 * j := by
  induction j with
  | zero => rfl
  | succ j ih => rw [fdy, List.length_append, ih, fds_len]; omega
theorem fds_mem (y : Int) (k : Nat) (p : Int × Int) : p ∈ fds y k ↔ 0 ≤ p.1 ∧ p.1 < k ∧ p.2 = fd p.1 y := by
  induction k with
  | zero => simp [fds]; omega
  | succ k ih =>
    rw [fds, List.mem_append, ih]
    constructor
    · rintro (⟨h0, h1, h2⟩ | h)
      · exact ⟨h0, by omega, h2⟩
      · simp at h; subst h; exact ⟨by simp, by simp; omega, rfl⟩
    · rintro ⟨h0, h1, h2⟩
      by_cases e : p.1 < k
      · exact .inl ⟨h0, e, h2⟩
      · have e1 : p.1 = k := by omega
        refine .inr ?_
        rw [e1] at h2
        obtain ⟨a, b⟩ := p
        simp only at e1 h2
        subst e1 h2
        simp
theorem fdy_mem (Y0 : Int) (j : Nat) (p : Int × Int) : p ∈ fdy Y0 j ↔ 0 ≤ p.1 ∧ p.1 < 20 ∧ ∃ i : Nat, i < j ∧ p.2 = fd p.1 (Y0 + i) := by
  induction j with
  | zero => simp [fdy]
  | succ j ih =>
    rw [fdy, List.mem_append, ih, fds_mem]
    constructor
    · rintro (⟨h0, h1, i, h2, h3⟩ | ⟨h0, h1, h2⟩)
      · exact ⟨h0, h1, i, by omega, h3⟩
      · exact ⟨h0, by omega, j, by omega, h2⟩
    · rintro ⟨h0, h1, i, h2, h3⟩
      by_cases e : i < j
      · exact .inl ⟨h0, h1, i, e, h3⟩
      · have : i = j := by omega
        subst this
        exact .inr ⟨h0, by omega, h3⟩
/-- The feasts on a day, out of the year's list. -/
def onD (n : Int) : List (Int × Int) → List Int
  | [] => []
  | p :: r => (if p.2 = n then [p.1] else []) ++ onD n r
theorem onD_append (n : Int) (a b : List (Int × Int)) : onD n (a ++ b) = onD n a ++ onD n b := by
  induction a with
  | nil => rfl
  | cons p r ih => rw [List.cons_append, onD, onD, ih, List.append_assoc]
theorem onD_fds (n y : Int) (k : Nat) : onD n (fds y k) = fo n y k := by
  induction k with
  | zero => rfl
  | succ k ih => rw [fds, onD_append, ih, fo]; simp [onD]

/-- The first of the feasts on a day has the least number. -/
theorem fo_head (n y : Int) (k : Nat) : fo n y k = [] ∨ ∃ x r, fo n y k = x :: r ∧ ∀ z ∈ fo n y k, x ≤ z := by
  induction k with
  | zero => exact .inl rfl
  | succ k ih =>
    rcases ih with h | ⟨x, r, h, hm⟩
    · rw [fo, h]
      split
      · exact .inr ⟨k, [], rfl, fun z hz => by simp at hz; omega⟩
      · exact .inl rfl
    · refine .inr ⟨x, r ++ (if fd k y = n then [(k : Int)] else []), by rw [fo, h]; rfl, fun z hz => ?_⟩
      have hx := (fo_mem n y k x).1 (by rw [h]; exact List.mem_cons_self ..)
      rcases (List.mem_append.1 (by rw [fo] at hz; exact hz)) with h2 | h2
      · exact hm z h2
      · split at h2
        · simp at h2; omega
        · simp at h2

/-! ### the order of the dates -/
/-- -1, 0 or 1, as a is less than b, equal or greater. -/
def sg (a b : Int) : Int := if a < b then -1 else if b < a then 1 else 0
theorem sg_bd (a b : Int) : -1 ≤ sg a b ∧ sg a b ≤ 1 := by unfold sg; repeat' split <;> omega
theorem sg_lt (a b : Int) : sg a b < 0 ↔ a < b := by unfold sg; repeat' split <;> omega
theorem sg_zero (a b : Int) : sg a b = 0 ↔ a = b := by unfold sg; repeat' split <;> omega
/-- The first of two that is not 0. -/
def orI (a b : Int) : Int := if a = 0 then b else a
/-- The order of dates (a feast and its day) by their days, then by their feasts. -/
def cmD (p q : Int × Int) : Int := orI (sg p.2 q.2) (sg p.1 q.1)
/-- The order by how far they are from a day. -/
def cmN (n : Int) (p q : Int × Int) : Int := orI (sg (max (p.2 - n) (n - p.2)) (max (q.2 - n) (n - q.2))) (cmD p q)
theorem cmD_bd (p q : Int × Int) : -1 ≤ cmD p q ∧ cmD p q ≤ 1 := by
  have := sg_bd p.2 q.2
  have := sg_bd p.1 q.1
  unfold cmD orI
  split <;> omega
theorem cmD_lt (p q : Int × Int) : cmD p q < 0 ↔ p.2 < q.2 ∨ (p.2 = q.2 ∧ p.1 < q.1) := by
  have a := sg_lt p.2 q.2
  have b := sg_zero p.2 q.2
  have c := sg_lt p.1 q.1
  unfold cmD orI
  split <;> omega
theorem cmN_lt (n : Int) (p q : Int × Int) : cmN n p q < 0 ↔ max (p.2 - n) (n - p.2) < max (q.2 - n) (n - q.2) ∨ (max (p.2 - n) (n - p.2) = max (q.2 - n) (n - q.2) ∧ (p.2 < q.2 ∨ (p.2 = q.2 ∧ p.1 < q.1))) := by
  have a := sg_lt (max (p.2 - n) (n - p.2)) (max (q.2 - n) (n - q.2))
  have b := sg_zero (max (p.2 - n) (n - p.2)) (max (q.2 - n) (n - q.2))
  have c := cmD_lt p q
  unfold cmN orI
  split <;> omega
/-- An order by which one can look for the least: what is not less than m is not less than what is less than m. -/
structure Ord (c : Int × Int → Int × Int → Int) : Prop where
  bd : ∀ p q, -1 ≤ c p q ∧ c p q ≤ 1
  refl : ∀ p, ¬ c p p < 0
  step : ∀ p m q, ¬ c p m < 0 → c q m < 0 → ¬ c p q < 0
theorem cmD_ord : Ord cmD := ⟨cmD_bd, fun p => by rw [cmD_lt]; omega, fun p m q => by rw [cmD_lt, cmD_lt, cmD_lt]; omega⟩
theorem cmN_bd (n : Int) (p q : Int × Int) : -1 ≤ cmN n p q ∧ cmN n p q ≤ 1 := by
  have := sg_bd (max (p.2 - n) (n - p.2)) (max (q.2 - n) (n - q.2))
  have := cmD_bd p q
  unfold cmN orI
  split <;> omega
theorem cmN_ord (n : Int) : Ord (cmN n) := ⟨cmN_bd n, fun p => by rw [cmN_lt]; omega, fun p m q => by rw [cmN_lt, cmN_lt, cmN_lt]; omega⟩
/-- m is a least one of the list. -/
def Least (c : Int × Int → Int × Int → Int) (l : List (Int × Int)) (m : Int × Int) : Prop := m ∈ l ∧ ∀ p ∈ l, ¬ c p m < 0

/-! ### the next feast, the nearest feast -/
theorem next_of {n y : Int} (h0 : 0 ≤ n) (h1 : n ≤ 730499) (hy : yr n = y) {j : Nat} (hj : (j : Int) = min (y + 1) 2000 + 1 - y) {m : Int × Int} (h : Least cmD ((fdy y j).filter fun p => !decide (p.2 < n)) m) : NextAns n m.2 m.1 0 := by
  obtain ⟨hm, hl⟩ := h
  obtain ⟨hm1, hm2⟩ := List.mem_filter.1 hm
  obtain ⟨a0, a1, i, hi, e⟩ := (fdy_mem y j m).1 hm1
  have hn : n ≤ m.2 := by simpa using hm2
  have hY := yr_isY n h0 h1
  rw [hy] at hY
  have hYi : isY (y + i) := ⟨by have := hY.1; omega, by omega⟩
  have hb := fd_bd m.1 (y + i) hYi
  have all : ∀ z d, n ≤ d → d ≤ m.2 → z ∈ fon d → (z, d) ∈ (fdy y j).filter fun p => !decide (p.2 < n) := by
    intro z d hd1 hd2 hz
    obtain ⟨hf, hz⟩ := (fon_mem d z).1 hz
    have y1 := yr_mono hd1
    have y2 := yr_mono hd2
    rw [hy] at y1
    rw [e, yr_fd] at y2
    refine List.mem_filter.2 ⟨(fdy_mem y j (z, d)).2 ⟨hf.1, by have := hf.2; simp only; omega, (yr d - y).toNat, by omega, ?_⟩, by simpa using hd1⟩
    rw [show y + (((yr d - y).toNat : Nat) : Int) = yr d by omega]
    exact hz.symm
  refine .inl ⟨h0, h1, rfl, hn, by omega, ?_, ?_⟩
  · have hin : m.1 ∈ fon m.2 := by rw [e]; exact fon_fd m.1 (y + i) ⟨a0, by omega⟩
    rcases fo_head m.2 (yr m.2) 20 with h | ⟨x, r, h, hx⟩
    · have : fon m.2 = [] := h
      rw [this] at hin; cases hin
    · have hh : fon m.2 = x :: r := h
      have k1 := hx m.1 hin
      have k2 := hl _ (all x m.2 hn (Int.le_refl _) (by rw [hh]; exact List.mem_cons_self ..))
      have k3 : ¬ x < m.1 := fun h => k2 ((cmD_lt _ _).2 (.inr ⟨rfl, h⟩))
      have : x = m.1 := by omega
      subst this
      exact ⟨r, hh⟩
  · intro d hd1 hd2
    cases hz : fon d with
    | nil => rfl
    | cons x r =>
      have k2 := hl _ (all x d hd1 (by omega) (by rw [hz]; exact List.mem_cons_self ..))
      exact (k2 ((cmD_lt _ _).2 (.inl hd2))).elim
theorem next_no {n y : Int} (h0 : 0 ≤ n) (h1 : n ≤ 730499) (hy : yr n = y) {j : Nat} (hj : (j : Int) = min (y + 1) 2000 + 1 - y) (h : (fdy y j).filter (fun p => !decide (p.2 < n)) = []) : NextAns n 0 0 4 := by
  refine .inr (.inl ⟨h0, h1, rfl, rfl, rfl, fun d hd1 hd2 => ?_⟩)
  have hY := yr_isY n h0 h1
  rw [hy] at hY
  cases hz : fon d with
  | nil => rfl
  | cons x r =>
    exfalso
    obtain ⟨hf, e⟩ := (fon_mem d x).1 (by rw [hz]; exact List.mem_cons_self ..)
    have y1 := yr_mono hd1
    rw [hy] at y1
    have hD := yr_isY d (by omega) hd2
    by_cases hc : yr d ≤ y + 1
    · have : (x, d) ∈ (fdy y j).filter fun p => !decide (p.2 < n) := by
        refine List.mem_filter.2 ⟨(fdy_mem y j (x, d)).2 ⟨hf.1, by have := hf.2; simp only; omega, (yr d - y).toNat, by have := hD.2; omega, ?_⟩, by simpa using hd1⟩
        rw [show y + (((yr d - y).toNat : Nat) : Int) = yr d by omega]
        exact e.symm
      rw [h] at this; cases this
    · have i1 := fd_in 0 (y + 1)
      have i2 := yr_in n
      rw [hy] at i2
      have : ((0 : Int), fd 0 (y + 1)) ∈ (fdy y j).filter fun p => !decide (p.2 < n) := by
        refine List.mem_filter.2 ⟨(fdy_mem y j _).2 ⟨by simp, by simp, 1, by have := hD.2; omega, ?_⟩, by simp; omega⟩
        simp
      rw [h] at this; cases this
theorem near_of {n y a : Int} (h0 : 0 ≤ n) (h1 : n ≤ 730499) (hy : yr n = y) (ha : max (y - 1) 1 = a) {j : Nat} (hj : (j : Int) = min (y + 1) 2000 + 1 - a) {m : Int × Int} (h : Least (cmN n) (fdy a j) m) : NearAns n m.1 (n - m.2) 0 := by
  obtain ⟨hm, hl⟩ := h
  obtain ⟨a0, a1, i, hi, e⟩ := (fdy_mem a j m).1 hm
  have ea : y0 n = a := by unfold y0; rw [hy]; omega
  have eb : y1 n + 1 = a + j := by unfold y1; rw [hy]; omega
  refine .inl ⟨h0, h1, rfl, ?_⟩
  rw [ea, eb]
  refine ⟨⟨a + i, .inl ⟨by omega, by omega, a0, a1⟩, by rw [e]⟩, ?_⟩
  rintro b' a' ⟨y', hc, e'⟩
  have k := hl (b', fd b' y') ((fdy_mem a j _).2 ⟨by simp only; omega, by simp only; omega, (y' - a).toNat, by omega, by
    simp only
    rw [show a + (((y' - a).toNat : Nat) : Int) = y' by omega]⟩)
  rw [cmN_lt] at k
  simp only at k
  unfold bet
  subst e'
  omega

/-! ### the days with a relation -/
theorem fd_gap (f y : Int) : fd f y + 300 ≤ fd f (y + 1) := by
  obtain ⟨c1, c2, c3, c6, c8, c9, c11, c12⟩ := cums y
  obtain ⟨k1, k2, k3, k6, k8, k9, k11, k12⟩ := cums (y + 1)
  have e := oE_eq y
  have d := delay_bd y
  have g := gap_bd y
  have e' := oE_eq (y + 1)
  have d' := delay_bd (y + 1)
  have g' := gap_bd (y + 1)
  have s : Cal.ys false y + 365 ≤ Cal.ys false (y + 1) := by rw [ys_old, ys_old]; omega
  have t : Cal.num false y 3 21 = Cal.ys false y + Cal.cum false y 3 + 20 := by unfold Cal.num; omega
  have t' : Cal.num false (y + 1) 3 21 = Cal.ys false (y + 1) + Cal.cum false (y + 1) 3 + 20 := by unfold Cal.num; omega
  have hv : 0 ≤ (if Cal.lp false y then (1 : Int) else 0) ∧ (if Cal.lp false y then (1 : Int) else 0) ≤ 1 := by split <;> omega
  have hv' : 0 ≤ (if Cal.lp false (y + 1) then (1 : Int) else 0) ∧ (if Cal.lp false (y + 1) then (1 : Int) else 0) ≤ 1 := by split <;> omega
  unfold fd Cal.num
  generalize (if Cal.lp false y then (1 : Int) else 0) = v at *
  generalize (if Cal.lp false (y + 1) then (1 : Int) else 0) = v' at *
  generalize oE y = E at *
  generalize oE (y + 1) = E' at *
  by_cases h0 : f = 0
  · rw [if_pos h0, if_pos h0]; omega
  rw [if_neg h0, if_neg h0]
  by_cases h1 : f = 1
  · rw [if_pos h1, if_pos h1]; omega
  rw [if_neg h1, if_neg h1]
  by_cases h2 : f = 2
  · rw [if_pos h2, if_pos h2]; omega
  rw [if_neg h2, if_neg h2]
  by_cases h3 : f = 3
  · rw [if_pos h3, if_pos h3]; omega
  rw [if_neg h3, if_neg h3]
  by_cases h4 : f = 4
  · rw [if_pos h4, if_pos h4]; omega
  rw [if_neg h4, if_neg h4]
  by_cases h5 : f = 5
  · rw [if_pos h5, if_pos h5]; omega
  rw [if_neg h5, if_neg h5]
  by_cases h6 : f = 6
  · rw [if_pos h6, if_pos h6]; omega
  rw [if_neg h6, if_neg h6]
  by_cases h7 : f = 7
  · rw [if_pos h7, if_pos h7]; omega
  rw [if_neg h7, if_neg h7]
  by_cases h8 : f = 8
  · rw [if_pos h8, if_pos h8]; omega
  rw [if_neg h8, if_neg h8]
  by_cases h9 : f = 9
  · rw [if_pos h9, if_pos h9]; omega
  rw [if_neg h9, if_neg h9]
  by_cases h10 : f = 10
  · rw [if_pos h10, if_pos h10]; omega
  rw [if_neg h10, if_neg h10]
  by_cases h11 : f = 11
  · rw [if_pos h11, if_pos h11]; omega
  rw [if_neg h11, if_neg h11]
  by_cases h12 : f = 12
  · rw [if_pos h12, if_pos h12]; omega
  rw [if_neg h12, if_neg h12]
  by_cases h13 : f = 13
  · rw [if_pos h13, if_pos h13]; omega
  rw [if_neg h13, if_neg h13]
  by_cases h14 : f = 14
  · rw [if_pos h14, if_pos h14]; omega
  rw [if_neg h14, if_neg h14]
  by_cases h15 : f = 15
  · rw [if_pos h15, if_pos h15]; omega
  rw [if_neg h15, if_neg h15]
  by_cases h16 : f = 16
  · rw [if_pos h16, if_pos h16]; omega
  rw [if_neg h16, if_neg h16]
  by_cases h17 : f = 17
  · rw [if_pos h17, if_pos h17]; omega
  rw [if_neg h17, if_neg h17]
  by_cases h18 : f = 18
  · rw [if_pos h18, if_pos h18]; omega
  rw [if_neg h18, if_neg h18]
  omega
theorem pd_nf {g : Int → Int} {a b Y0 : Int} (hg : ∀ y, g y + 2 ≤ g (y + 1)) (ha : 0 ≤ a) (hb : b ≤ 730499) (j : Nat) : NF 0 (pd g a b Y0 j) ∧ (∀ s ∈ pd g a b Y0 j, s.2 + 2 ≤ g (Y0 + j)) := by
  have app : ∀ (xs : List (Int × Int)) (lo x : Int), NF lo xs → (∀ s ∈ xs, s.2 + 2 ≤ x) → lo ≤ x → ok (x, x) → NF lo (xs ++ [(x, x)]) := by
    intro xs
    induction xs with
    | nil => intro lo x _ _ h1 h2; exact ⟨h1, h2, trivial⟩
    | cons s r ih =>
      intro lo x h hs h1 h2
      obtain ⟨q1, q2, q3⟩ := h
      exact ⟨q1, q2, ih _ _ q3 (fun t ht => hs t (List.mem_cons_of_mem _ ht)) (hs s (List.mem_cons_self ..)) h2⟩
  induction j with
  | zero => exact ⟨trivial, fun s h => by cases h⟩
  | succ j ih =>
    obtain ⟨i1, i2⟩ := ih
    have hs := hg (Y0 + j)
    have e : Y0 + ((j + 1 : Nat) : Int) = Y0 + j + 1 := by omega
    rw [e]
    unfold pd
    split
    · rename_i hx
      refine ⟨app _ _ _ i1 (fun s h => i2 s h) (by omega) ⟨by simp only; omega, by simp only; omega, by simp only; omega⟩, fun s h => ?_⟩
      rcases List.mem_append.1 h with h | h
      · have := i2 s h; omega
      · simp at h; subst h; exact hs
    · rw [List.append_nil]
      exact ⟨i1, fun s h => by have := i2 s h; omega⟩
theorem rd_gap (r k f y : Int) : rd r k (fd f y) + 2 ≤ rd r k (fd f (y + 1)) := by
  have a := rd_bd r k (fd f y)
  have b := rd_bd r k (fd f (y + 1))
  have c := fd_gap f y
  omega
theorem pd_ansI {f r k a b : Int} (h : FdOk f r k a b) {Y0 Y1 : Int} (h0 : max (yr a - 1) 1 = Y0) (h1 : min (yr b + 1) 2000 = Y1) (N : Nat) (hN : (N : Int) = Y1 + 1 - Y0) :
    N ≤ 300 ∧ FdAns f r k a b (pd (fun y => rd r k (fd f y)) a b Y0 N) 0 := by
  have hl : N ≤ 300 := by
    obtain ⟨-, -, p0, p1, p2, p3, p4⟩ := h
    unfold yr at h0 h1
    omega
  refine ⟨hl, .inl ⟨h, rfl, Nat.le_trans (pd_len _ _ _ _ _) hl, (pd_nf (rd_gap r k f) h.2.2.1 h.2.2.2.2.2.1 N).1, fun d => ?_⟩⟩
  rw [pd_has]
  constructor
  · rintro ⟨k1, k2, i, k3, k4⟩
    refine ⟨k1, k2, Y0 + i, ⟨by omega, by omega⟩, k4⟩
  · rintro ⟨k1, k2, y, hy, e⟩
    have hr := rd_year f r k y
    rw [e] at hr
    have m1 := yr_mono k1
    have m2 := yr_mono k2
    obtain ⟨y1, y2⟩ := hy
    refine ⟨k1, k2, (y - Y0).toNat, by omega, ?_⟩
    show rd r k (fd f (Y0 + ((y - Y0).toNat : Int))) = d
    rw [show Y0 + ((y - Y0).toNat : Int) = y by omega]
    exact e

end Go.Proofs.Ytegoiiconhgjbaa.Fea
