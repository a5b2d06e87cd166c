/- The mathematics of styles of the year: when a year begins, which year a day belongs to. -/
import Derived.Test.YtigjpalbaapkkaaFeaN
import Derived.Test.YtigjpalbaapkkaaFeaQ
namespace Go.Proofs.Ytigjpalbaapkkaa.Sty
open Go.Proofs.Ytigjpalbaapkkaa.Eas (isY oE oE_eq num_321 delay_bd gap_bd oE_bd)
open Go.Proofs.Ytigjpalbaapkkaa.Fea (cums ys_old yr yr_in yr_eq yr_isY)
open Go.RowKit

theorem yr_monoS {a b : Int} (h : a ≤ b) : yr a ≤ yr b := by unfold yr; omega
/-- A style, a year of a style. -/
def isS (s : Int) : Prop := 0 ≤ s ∧ s ≤ 6
instance (s : Int) : Decidable (isS s) := by unfold isS; exact inferInstance
def isT (y : Int) : Prop := 2 ≤ y ∧ y ≤ 1999
instance (y : Int) : Decidable (isT y) := by unfold isT; exact inferInstance
/-- The day on which a year begins. -/
def bg (s y : Int) : Int :=
  if s = 0 then Cal.num false y 1 1 else if s = 1 then Cal.num false y 3 1 else if s = 2 then Cal.num false y 3 25 else if s = 3 then Cal.num false (y - 1) 3 25
  else if s = 4 then oE y else if s = 5 then Cal.num false (y - 1) 12 25 else Cal.num false (y - 1) 9 1
theorem bg_all (s y : Int) : Cal.ys false (y - 1) ≤ bg s y ∧ bg s y < Cal.ys false (y + 1) ∧ bg s y + 329 ≤ bg s (y + 1) ∧ bg s (y + 1) ≤ bg s y + 401 := by
  obtain ⟨c1, c2, c3, c6, c8, c9, c11, c12⟩ := cums y
  obtain ⟨k1, k2, k3, k6, k8, k9, k11, k12⟩ := cums (y + 1)
  obtain ⟨j1, j2, j3, j6, j8, j9, j11, j12⟩ := cums (y - 1)
  have e := oE_eq y
  have d := delay_bd y
  have g := gap_bd y
  have e' := oE_eq (y + 1)
  have d' := delay_bd (y + 1)
  have g' := gap_bd (y + 1)
  have t : Cal.num false y 3 21 = Cal.ys false y + Cal.cum false y 3 + 20 := by unfold Cal.num; omega
  have t' : Cal.num false (y + 1) 3 21 = Cal.ys false (y + 1) + Cal.cum false (y + 1) 3 + 20 := by unfold Cal.num; omega
  have s0 := Cal.ys_succ false (y - 1)
  have s1 := Cal.ys_succ false y
  have s2 := Cal.ys_succ false (y + 1)
  rw [show y - 1 + 1 = y by omega] at s0
  have q : y + 1 - 1 = y := by omega
  have hv0 : 0 ≤ (if Cal.lp false (y - 1) then (1 : Int) else 0) ∧ (if Cal.lp false (y - 1) then (1 : Int) else 0) ≤ 1 := by split <;> omega
  have hv1 : 0 ≤ (if Cal.lp false y then (1 : Int) else 0) ∧ (if Cal.lp false y then (1 : Int) else 0) ≤ 1 := by split <;> omega
  have hv2 : 0 ≤ (if Cal.lp false (y + 1) then (1 : Int) else 0) ∧ (if Cal.lp false (y + 1) then (1 : Int) else 0) ≤ 1 := by split <;> omega
  unfold bg Cal.num
  rw [q]
  generalize (if Cal.lp false (y - 1) then (1 : Int) else 0) = v0 at *
  generalize (if Cal.lp false y then (1 : Int) else 0) = v1 at *
  generalize (if Cal.lp false (y + 1) then (1 : Int) else 0) = v2 at *
  generalize oE y = E at *
  generalize oE (y + 1) = E' at *
  by_cases h0 : s = 0
  · rw [if_pos h0, if_pos h0]; omega
  rw [if_neg h0, if_neg h0]
  by_cases h1 : s = 1
  · rw [if_pos h1, if_pos h1]; omega
  rw [if_neg h1, if_neg h1]
  by_cases h2 : s = 2
  · rw [if_pos h2, if_pos h2]; omega
  rw [if_neg h2, if_neg h2]
  by_cases h3 : s = 3
  · rw [if_pos h3, if_pos h3]; omega
  rw [if_neg h3, if_neg h3]
  by_cases h4 : s = 4
  · rw [if_pos h4, if_pos h4]; omega
  rw [if_neg h4, if_neg h4]
  by_cases h5 : s = 5
  · rw [if_pos h5, if_pos h5]; omega
  rw [if_neg h5, if_neg h5]
  omega
theorem bg_mono (s : Int) {y y' : Int} (h : y < y') : bg s (y + 1) ≤ bg s y' := by
  obtain ⟨k, hk⟩ : ∃ k : Nat, y' = y + 1 + k := ⟨(y' - y - 1).toNat, by omega⟩
  subst hk
  clear h
  induction k with
  | zero => simp
  | succ k ih =>
    have := (bg_all s (y + 1 + k)).2.2.1
    rw [show y + 1 + ((k + 1 : Nat) : Int) = y + 1 + k + 1 by omega]
    omega
theorem bg_bd (s y : Int) (h : 1 ≤ y) (h2 : y ≤ 2000) : -366 ≤ bg s y ∧ bg s y ≤ 730499 := by
  have a := (bg_all s y).1
  have b := (bg_all s y).2.1
  have c := Cal.ys_mono false 0 (y - 1) (by omega)
  have d := Cal.ys_mono false (y + 1) 2001 (by omega)
  rw [Cal.ys_2001] at d
  rw [ys_old] at c
  simp at c d
  omega
theorem bg_bd2 (s y : Int) (h : 2 ≤ y) (h2 : y ≤ 2000) : 0 ≤ bg s y ∧ bg s y ≤ 730499 := by
  have a := (bg_all s y).1
  have b := bg_bd s y (by omega) h2
  have c := Cal.ys_mono false 1 (y - 1) (by omega)
  rw [Cal.ys_1] at c
  simp at c
  omega

/-! ### the year of a day -/
/-- The day n is in the year y. -/
def OnIs (s n y : Int) : Prop := isT y ∧ bg s y ≤ n ∧ n < bg s (y + 1)
instance (s n y : Int) : Decidable (OnIs s n y) := by unfold OnIs; exact inferInstance
theorem OnIs.uniq {s n y y' : Int} (h : OnIs s n y) (h' : OnIs s n y') : y = y' := by
  obtain ⟨-, a, b⟩ := h
  obtain ⟨-, a', b'⟩ := h'
  rcases Int.lt_trichotomy y y' with h | h | h
  · have := bg_mono s h; omega
  · exact h
  · have := bg_mono s h; omega
theorem OnIs.near {s n y : Int} (h : OnIs s n y) : yr n - 1 ≤ y ∧ y ≤ yr n + 1 := by
  obtain ⟨-, a, b⟩ := h
  have p := (bg_all s y).1
  have q := (bg_all s (y + 1)).2.1
  obtain ⟨r1, r2⟩ := yr_in n
  rw [ys_old] at p q r1 r2
  omega
/-- The year of a day, 0 if it is not told. -/
def on (s n : Int) : Int := if OnIs s n (yr n - 1) then yr n - 1 else if OnIs s n (yr n) then yr n else if OnIs s n (yr n + 1) then yr n + 1 else 0
def told (s n : Int) : Bool := decide (OnIs s n (yr n - 1) ∨ OnIs s n (yr n) ∨ OnIs s n (yr n + 1))
theorem on_of {s n y : Int} (h : OnIs s n y) : on s n = y ∧ told s n = true := by
  obtain ⟨a, b⟩ := h.near
  have e : y = yr n - 1 ∨ y = yr n ∨ y = yr n + 1 := by omega
  unfold on told
  rcases e with e | e | e <;> rw [e] at h
  · exact ⟨by rw [if_pos h, e], decide_eq_true (.inl h)⟩
  · refine ⟨?_, decide_eq_true (.inr (.inl h))⟩
    rw [if_neg (fun k => by have := k.uniq h; omega), if_pos h, e]
  · refine ⟨?_, decide_eq_true (.inr (.inr h))⟩
    rw [if_neg (fun k => by have := k.uniq h; omega), if_neg (fun k => by have := k.uniq h; omega), if_pos h, e]
theorem on_no {s n : Int} (h : ∀ y, ¬ OnIs s n y) : on s n = 0 ∧ told s n = false := by
  unfold on told
  exact ⟨by rw [if_neg (h _), if_neg (h _), if_neg (h _)], decide_eq_false (by rintro (k | k | k) <;> exact h _ k)⟩
theorem on_cases (s n : Int) : (∃ y, OnIs s n y ∧ on s n = y ∧ told s n = true) ∨ ((∀ y, ¬ OnIs s n y) ∧ on s n = 0 ∧ told s n = false) := by
  by_cases h : ∃ y, OnIs s n y
  · obtain ⟨y, h⟩ := h
    exact .inl ⟨y, h, on_of h⟩
  · have h' : ∀ y, ¬ OnIs s n y := fun y k => h ⟨y, k⟩
    exact .inr ⟨h', on_no h'⟩
theorem on_bd (s n : Int) : 0 ≤ on s n ∧ on s n ≤ 1999 := by
  rcases on_cases s n with ⟨y, h, e, -⟩ | ⟨-, e, -⟩
  · have := h.1; unfold isT at this; omega
  · omega
/-- Years of a day in two styles differ by two at most. -/
theorem on_diff {s t n y z : Int} (h : OnIs s n y) (h' : OnIs t n z) : -2 ≤ z - y ∧ z - y ≤ 2 := by
  have a := h.near
  have b := h'.near
  omega

/-! ### what is answered -/
def spOk (s y : Int) : Prop := isS s ∧ isT y
instance (s y : Int) : Decidable (spOk s y) := by unfold spOk; exact inferInstance
def spF (s y : Int) : Int := if spOk s y then bg s y else 0
def spT (s y : Int) : Int := if spOk s y then bg s (y + 1) - 1 else 0
def spE (s y : Int) : Int := if spOk s y then 0 else 2
def lyN (s y : Int) : Int := if spOk s y then bg s (y + 1) - bg s y else 0
def yoOk (s n : Int) : Prop := isS s ∧ 0 ≤ n ∧ n ≤ 730499
instance (s n : Int) : Decidable (yoOk s n) := by unfold yoOk; exact inferInstance
def yoN (s n : Int) : Int := if yoOk s n then on s n else 0
def yoE (s n : Int) : Int := if yoOk s n then (if told s n = true then 0 else 4) else 2
def ydOk (a b n : Int) : Prop := isS a ∧ isS b ∧ 0 ≤ n ∧ n ≤ 730499
instance (a b n : Int) : Decidable (ydOk a b n) := by unfold ydOk; exact inferInstance
def ydN (a b n : Int) : Int := if ydOk a b n ∧ told a n = true ∧ told b n = true then on b n - on a n else 0
def ydE (a b n : Int) : Int := if ydOk a b n then (if told a n = true ∧ told b n = true then 0 else 4) else 2
/-- The styles before k by which a day is in a year. -/
def sf (n y : Int) : Nat → List Int
  | 0 => []
  | k + 1 => sf n y k ++ (if OnIs k n y then [(k : Int)] else [])
theorem sf_len (n y : Int) (k : Nat) : (sf n y k).length ≤ k := by
  induction k with
  | zero => simp [sf]
  | succ k ih => simp only [sf, List.length_append]; split <;> simp <;> omega
theorem sf_mem (n y : Int) (k : Nat) (x : Int) : x ∈ sf n y k ↔ 0 ≤ x ∧ x < k ∧ OnIs x n y := by
  induction k with
  | zero => simp [sf]; omega
  | succ k ih =>
    rw [sf, List.mem_append, ih]
    constructor
    · rintro (h | h)
      · exact ⟨h.1, by omega, h.2.2⟩
      · split at h
        · simp at h; subst h; rename_i e; exact ⟨by omega, by omega, e⟩
        · simp at h
    · rintro ⟨h0, h1, h2⟩
      by_cases e : x < k
      · exact .inl ⟨h0, e, h2⟩
      · have : x = k := by omega
        subst this
        exact .inr (by rw [if_pos h2]; simp)
def sfOk (n y : Int) : Prop := (0 ≤ n ∧ n ≤ 730499) ∧ isT y
instance (n y : Int) : Decidable (sfOk n y) := by unfold sfOk; exact inferInstance
def sfL (n y : Int) : List Int := if sfOk n y then sf n y 7 else []
def sfE (n y : Int) : Int := if sfOk n y then 0 else 2

/-! ### days with a date -/
/-- Strictly increasing from lo on. -/
def Inc : Int → List Int → Prop
  | _, [] => True
  | lo, x :: r => lo ≤ x ∧ Inc (x + 1) r
theorem Inc.ge {lo : Int} {xs : List Int} (h : Inc lo xs) {x : Int} (hx : x ∈ xs) : lo ≤ x := by
  induction xs generalizing lo with
  | nil => cases hx
  | cons a r ih =>
    rcases List.mem_cons.1 hx with rfl | hx
    · exact h.1
    · have := ih h.2 hx; have := h.1; omega
theorem Inc.uniq {lo lo' : Int} {xs ys : List Int} (h : Inc lo xs) (h' : Inc lo' ys) (e : ∀ x, x ∈ xs ↔ x ∈ ys) : xs = ys := by
  induction xs generalizing lo lo' ys with
  | nil =>
    cases ys with
    | nil => rfl
    | cons b t => have := (e b).2 (List.mem_cons_self ..); cases this
  | cons a r ih =>
    cases ys with
    | nil => have := (e a).1 (List.mem_cons_self ..); cases this
    | cons b t =>
      have hab : a = b := by
        have h1 : a = b ∨ b + 1 ≤ a := by
          rcases List.mem_cons.1 ((e a).1 (List.mem_cons_self ..)) with k | k
          · exact .inl k
          · exact .inr (h'.2.ge k)
        have h2 : b = a ∨ a + 1 ≤ b := by
          rcases List.mem_cons.1 ((e b).2 (List.mem_cons_self ..)) with k | k
          · exact .inl k
          · exact .inr (h.2.ge k)
        omega
      subst hab
      rw [ih h.2 h'.2 fun x => ?_]
      constructor
      · intro hx
        rcases List.mem_cons.1 ((e x).1 (List.mem_cons_of_mem _ hx)) with k | k
        · have := h.2.ge hx; omega
        · exact k
      · intro hx
        rcases List.mem_cons.1 ((e x).2 (List.mem_cons_of_mem _ hx)) with k | k
        · have := h'.2.ge hx; omega
        · exact k
theorem Inc.snoc {lo x : Int} {xs : List Int} (h : Inc lo xs) (hl : lo ≤ x) (hx : ∀ z ∈ xs, z < x) : Inc lo (xs ++ [x]) := by
  induction xs generalizing lo with
  | nil => exact ⟨hl, trivial⟩
  | cons a r ih =>
    have := hx a (List.mem_cons_self ..)
    exact ⟨h.1, ih h.2 (by omega) fun z hz => hx z (List.mem_cons_of_mem _ hz)⟩
/-- The days from a to b with a month and a day, of the years from Y0 on, j of them. -/
def dd (m d a b Y0 : Int) : Nat → List Int
  | 0 => []
  | j + 1 => dd m d a b Y0 j ++ (if Cal.valid false (Y0 + j) m d ∧ a ≤ Cal.num false (Y0 + j) m d ∧ Cal.num false (Y0 + j) m d ≤ b then [Cal.num false (Y0 + j) m d] else [])
theorem dd_len (m d a b Y0 : Int) (j : Nat) : (dd m d a b Y0 j).length ≤ j := by
  induction j with
  | zero => simp [dd]
  | succ j ih => simp only [dd, List.length_append]; split <;> simp <;> omega
theorem dd_mem (m d a b Y0 : Int) (j : Nat) (x : Int) : x ∈ dd m d a b Y0 j ↔ a ≤ x ∧ x ≤ b ∧ ∃ i : Nat, i < j ∧ Cal.valid false (Y0 + i) m d ∧ Cal.num false (Y0 + i) m d = x := by
  induction j with
  | zero => simp [dd]
  | succ j ih =>
    rw [dd, List.mem_append, ih]
    constructor
    · rintro (⟨h1, h2, i, h3, h4⟩ | h)
      · exact ⟨h1, h2, i, by omega, h4⟩
      · split at h
        · rename_i e; simp at h; subst h; exact ⟨e.2.1, e.2.2, j, by omega, e.1, rfl⟩
        · simp at h
    · rintro ⟨h1, h2, i, h3, h4, h5⟩
      by_cases e : i < j
      · exact .inl ⟨h1, h2, i, e, h4, h5⟩
      · have : i = j := by omega
        subst this
        exact .inr (by rw [if_pos ⟨h4, by omega, by omega⟩]; simp [h5])
theorem dd_inc (m d a b Y0 : Int) (j : Nat) : Inc a (dd m d a b Y0 j) := by
  induction j with
  | zero => exact trivial
  | succ j ih =>
    rw [dd]
    split
    · rename_i e
      refine ih.snoc e.2.1 fun z hz => ?_
      obtain ⟨-, -, i, hi, hv, hz⟩ := (dd_mem m d a b Y0 j z).1 hz
      have p := Cal.num_in false hv
      have q := Cal.num_in false e.1
      have r := Cal.ys_mono false (Y0 + i + 1) (Y0 + j) (by omega)
      omega
    · rw [List.append_nil]; exact ih
/-- What DaysWith takes and answers. -/
def dwOk (s y m d : Int) : Prop := spOk s y ∧ Cal.valid false 4 m d
instance (s y m d : Int) : Decidable (dwOk s y m d) := by unfold dwOk Cal.valid; exact inferInstance
def DwAns (s y m d : Int) (V : List Int) (c : Int) : Prop :=
  (dwOk s y m d ∧ c = 0 ∧ V.length ≤ 3 ∧ Inc (bg s y) V ∧ ∀ x, x ∈ V ↔ bg s y ≤ x ∧ x < bg s (y + 1) ∧ ∃ Y, Cal.valid false Y m d ∧ Cal.num false Y m d = x) ∨ (¬ dwOk s y m d ∧ c = 2 ∧ V = [])
theorem DwAns.uniq {s y m d c c' : Int} {V V' : List Int} (h : DwAns s y m d V c) (h' : DwAns s y m d V' c') : V = V' ∧ c = c' := by
  rcases h with ⟨h1, h2, h3, h4, h5⟩ | ⟨h1, h2, h3⟩ <;> rcases h' with ⟨k1, k2, k3, k4, k5⟩ | ⟨k1, k2, k3⟩
  · exact ⟨h4.uniq k4 fun x => (h5 x).trans (k5 x).symm, by omega⟩
  · exact (k1 h1).elim
  · exact (h1 k1).elim
  · exact ⟨h3.trans k3.symm, by omega⟩
/-- The years that are looked at are enough. -/
theorem dd_ans {s y m d : Int} (h : dwOk s y m d) {Y0 Y1 : Int} (h0 : Y0 ≤ yr (bg s y)) (h1 : yr (bg s (y + 1) - 1) ≤ Y1) (N : Nat) (hN : (N : Int) = Y1 + 1 - Y0) (hN3 : N ≤ 3) :
    DwAns s y m d (dd m d (bg s y) (bg s (y + 1) - 1) Y0 N) 0 := by
  refine .inl ⟨h, rfl, Nat.le_trans (dd_len ..) hN3, dd_inc .., fun x => ?_⟩
  rw [dd_mem]
  constructor
  · rintro ⟨a, b, i, -, c⟩
    exact ⟨a, by omega, Y0 + i, c⟩
  · rintro ⟨a, b, Y, c, e⟩
    have p := yr_monoS a
    have q := yr_monoS (show x ≤ bg s (y + 1) - 1 by omega)
    have r := Fea.yr_num c e
    refine ⟨a, by omega, (Y - Y0).toNat, by omega, ?_⟩
    rw [show Y0 + (((Y - Y0).toNat : Nat) : Int) = Y by omega]
    exact ⟨c, e⟩
theorem span_years (s y : Int) : y - 1 ≤ yr (bg s y) ∧ yr (bg s (y + 1) - 1) ≤ y + 1 ∧ yr (bg s (y + 1) - 1) ≤ yr (bg s y) + 2 := by
  have a := bg_all s y
  have b := bg_all s (y + 1)
  rw [ys_old, ys_old] at a b
  unfold yr
  omega

/-! ### names -/
def snms : List (List UInt8) := [[106, 97, 110, 117, 97, 114, 121], [109, 97, 114, 99, 104], [108, 97, 100, 121], [112, 105, 115, 97], [101, 97, 115, 116, 101, 114], [99, 104, 114, 105, 115, 116, 109, 97, 115], [115, 101, 112, 116, 101, 109, 98, 101, 114]]
open Go.Proofs.Ytigjpalbaapkkaa.Fea (IdxIs IdxIs.uniq bs bs_toList)
def SNamed (l : List UInt8) (k : Int) (b : Bool) : Prop := ∃ i, IdxIs snms l i ∧ ((0 ≤ i ∧ k = i ∧ b = true) ∨ (i = -1 ∧ k = 0 ∧ b = false))
theorem SNamed.uniq {l : List UInt8} {k k' : Int} {b b' : Bool} (h : SNamed l k b) (h' : SNamed l k' b') : k = k' ∧ b = b' := by
  obtain ⟨i, h1, h2⟩ := h
  obtain ⟨i', k1, k2⟩ := h'
  have := h1.uniq k1
  subst this
  rcases h2 with ⟨a, rfl, rfl⟩ | ⟨a, rfl, rfl⟩ <;> rcases k2 with ⟨b, rfl, rfl⟩ | ⟨b, rfl, rfl⟩
  · exact ⟨rfl, rfl⟩
  · omega
  · omega
  · exact ⟨rfl, rfl⟩
theorem snms_len : snms.length = 7 := rfl
def snL (s : Int) : List UInt8 := if isS s then snms.getD s.toNat [] else []
theorem snL_get (j : Nat) (h : j < 7) : snms[j]? = some (snL j) := by
  have hf : isS (j : Int) := ⟨by omega, by omega⟩
  unfold snL
  rw [if_pos hf, Int.toNat_natCast, List.getD_eq_getElem?_getD, List.getElem?_eq_getElem (by rw [snms_len]; exact h)]
  rfl
theorem snL_no (s : Int) (h : ¬ isS s) : snL s = [] := if_neg h
theorem snms_ne : ∀ i : Fin 7, snms[i.val]? ≠ some [] := by decide
theorem snms_inj : ∀ i j : Fin 7, snms[i.val]? = snms[j.val]? → i = j := by decide
theorem idx_snm (j : Nat) (h : j < 7) : IdxIs snms (snL j) j :=
  .inl ⟨j, rfl, snL_get j h, fun i hi e => by
    have := snms_inj ⟨i, by omega⟩ ⟨j, h⟩ (e.trans (snL_get j h).symm)
    have := congrArg Fin.val this
    simp at this
    omega⟩
theorem idx_snone : IdxIs snms [] (-1) := .inr ⟨rfl, fun i e => by
  by_cases h : i < 7
  · exact snms_ne ⟨i, h⟩ e
  · rw [List.getElem?_eq_none (by rw [snms_len]; omega)] at e; cases e⟩
/-- The name of a style has the style's number. -/
theorem named_sn (s : Int) : SNamed (snL s) (if isS s then s else 0) (decide (isS s)) := by
  by_cases h : isS s
  · obtain ⟨h0, h1⟩ := h
    obtain ⟨j, rfl⟩ : ∃ j : Nat, s = j := ⟨s.toNat, by omega⟩
    rw [if_pos ⟨h0, h1⟩, decide_eq_true ⟨h0, h1⟩]
    exact ⟨j, idx_snm j (by omega), .inl ⟨by omega, rfl, rfl⟩⟩
  · rw [snL_no s h, if_neg h, decide_eq_false h]
    exact ⟨-1, idx_snone, .inr ⟨rfl, rfl, rfl⟩⟩
theorem snL_empty (s : Int) : snL s = [] ↔ ¬ isS s := by
  constructor
  · intro e h
    obtain ⟨h0, h1⟩ := h
    obtain ⟨j, rfl⟩ : ∃ j : Nat, s = j := ⟨s.toNat, by omega⟩
    exact snms_ne ⟨j, by omega⟩ ((snL_get j (by omega)).trans (congrArg some e))
  · exact snL_no s
/-- The cells of the names. -/
def snV : Array Value := (snms.map fun l => Value.string (bs l)).toArray
theorem snV_get (j : Nat) (h : j < 7) : snV[j]? = some (.string (bs (snL j))) := by
  unfold snV
  rw [List.getElem?_toArray, List.getElem?_map, snL_get j h]
  rfl

end Go.Proofs.Ytigjpalbaapkkaa.Sty
