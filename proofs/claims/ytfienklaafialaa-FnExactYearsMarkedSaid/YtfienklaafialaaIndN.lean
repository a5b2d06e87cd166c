/- What the way by whole years to days with an indiction means: the years' spans, met with the days asked for. -/
import Derived.Test.YtfienklaafialaaIndM
namespace Go.Proofs.Ytfienklaafialaa.Ind
open Go.Proofs.Ytfienklaafialaa.Eas (isY)
open Go.Proofs.Ytfienklaafialaa.Fea (yr)
open Go.Proofs.Ytfienklaafialaa.Sets (NF has ok meet both)

/-- How many days before January 1 of a year its indiction begins. -/
def lead (k : Int) : Int := if k = 0 then 122 else if k = 1 then 99 else 0
theorem lead_bd (k : Int) : 0 ≤ lead k ∧ lead k ≤ 122 := by unfold lead; split <;> (try split) <;> omega
theorem yF_lead {k : Int} (hk : isK k) (y : Int) : yF k y = Cal.ys false y - lead k := by
  obtain ⟨h0, h2⟩ := hk
  obtain ⟨v, v0, v1, e1, e2⟩ := trn_eq k (y - 1)
  rw [show y - 1 + 1 = y by omega] at e2
  unfold yF lead
  unfold kdy at e1
  split
  · rename_i e
    subst e
    rw [num_0101]
    simp
  · rename_i e
    split at e1 <;> rename_i e3
    · rw [if_pos e3]; omega
    · rw [if_neg e3, if_pos (show k = 1 by omega)]; omega
theorem yT_lead {k : Int} (hk : isK k) (y : Int) : yT k y = Cal.ys false (y + 1) - lead k - 1 := by
  obtain ⟨h0, h2⟩ := hk
  obtain ⟨v, v0, v1, e1, e2⟩ := trn_eq k y
  unfold yT lead
  unfold kdy at e1
  split
  · rename_i e
    subst e
    rw [num_1231]
    simp
  · rename_i e
    split at e1 <;> rename_i e3
    · rw [if_pos e3]; omega
    · rw [if_neg e3, if_pos (show k = 1 by omega)]; omega
theorem span_step {k : Int} (hk : isK k) (y : Int) : yF k (y + 1) = yT k y + 1 ∧ yF k y + 300 ≤ yT k y := by
  have a := yF_lead hk y
  have b := yF_lead hk (y + 1)
  have c := yT_lead hk y
  have d := Cal.ys_succ false y
  split at d <;> omega

/-- The whole spans of the years with an indiction, of n years from y on. -/
def whole (k i y : Int) : Nat → Sets.L
  | 0 => []
  | n + 1 => (if ind y = i then [(yF k y, yT k y)] else []) ++ whole k i (y + 1) n
theorem whole_len (k i : Int) : ∀ (n : Nat) (y : Int), (whole k i y n).length ≤ n
  | 0, _ => Nat.le_refl _
  | n + 1, y => by
    have := whole_len k i n (y + 1)
    rw [whole, List.length_append]
    split <;> simp <;> omega

/-- Spans that rise and lie apart. -/
def Up : Int → Sets.L → Prop
  | _, [] => True
  | lo, s :: r => lo ≤ s.1 ∧ s.1 ≤ s.2 ∧ Up (s.2 + 2) r
theorem Up.mono {lo lo' : Int} {xs : Sets.L} (h : Up lo xs) (hl : lo' ≤ lo) : Up lo' xs := by
  cases xs with
  | nil => trivial
  | cons s r => exact ⟨by have := h.1; omega, h.2⟩
theorem Up.ge : ∀ {xs : Sets.L} {lo : Int}, Up lo xs → ∀ {d : Int}, has xs d → lo ≤ d
  | [], _, _, d, hd => absurd hd (Sets.has_nil d)
  | s :: r, lo, h, d, hd => by
    rcases (Sets.has_cons s r d).1 hd with e | e
    · have := h.1; omega
    · have a := Up.ge h.2.2 e
      have b := h.1
      have c := h.2.1
      omega
theorem whole_up {k : Int} (hk : isK k) (i : Int) : ∀ (n : Nat) (y : Int), Up (yF k y) (whole k i y n) ∧ (ind y ≠ i → Up (yF k y + 2) (whole k i y n))
  | 0, _ => ⟨trivial, fun _ => trivial⟩
  | n + 1, y => by
    obtain ⟨p, q⟩ := whole_up hk i n (y + 1)
    obtain ⟨s1, s2⟩ := span_step hk y
    rw [whole]
    by_cases h : ind y = i
    · rw [if_pos h]
      refine ⟨?_, fun e => absurd h e⟩
      have h2 : ind (y + 1) ≠ i := by
        intro e
        have := ind_1 y
        have b := ind_bd y
        rw [e, h] at this
        rw [h] at b
        omega
      exact ⟨Int.le_refl _, by simp only; omega, (q h2).mono (by simp only; omega)⟩
    · rw [if_neg h]
      exact ⟨p.mono (by omega), fun _ => p.mono (by omega)⟩
theorem whole_has (k i : Int) : ∀ (n : Nat) (y d : Int), has (whole k i y n) d ↔ ∃ a : Nat, a < n ∧ ind (y + a) = i ∧ onY k d = y + a
  | 0, y, d => by simp [whole, has]
  | n + 1, y, d => by
    rw [whole, Sets.has_append, whole_has k i n (y + 1) d]
    constructor
    · rintro (h | ⟨a, h1, h2, h3⟩)
      · split at h
        · rename_i e
          have h' : yF k y ≤ d ∧ d ≤ yT k y := by simpa [has] using h
          exact ⟨0, by omega, by simpa using e, by simpa using (on_iff k d y).1 h'⟩
        · exact absurd h (Sets.has_nil d)
      · have e : y + ((a + 1 : Nat) : Int) = y + 1 + a := by omega
        exact ⟨a + 1, by omega, by rw [e]; exact h2, by omega⟩
    · rintro ⟨a, h1, h2, h3⟩
      cases a with
      | zero =>
        simp at h2 h3
        left
        rw [if_pos h2]
        have := (on_iff k d y).2 h3
        simpa [has] using this
      | succ a =>
        right
        have e : y + ((a + 1 : Nat) : Int) = y + 1 + a := by omega
        exact ⟨a, by omega, by rw [← e]; exact h2, by omega⟩

theorem meet_up {f t : Int} (h0 : 0 ≤ f) (h1 : t ≤ 730499) : ∀ {xs : Sets.L} {lo : Int}, Up lo xs →
    NF (max lo f) (meet xs [(f, t)]) ∧ ∀ d, has (meet xs [(f, t)]) d ↔ has xs d ∧ f ≤ d ∧ d ≤ t
  | [], lo, _ => by simp [meet, NF, has]
  | a :: r, lo, h => by
    obtain ⟨l1, l2, l3⟩ := h
    obtain ⟨n1, n2⟩ := meet_up h0 h1 l3
    have hb : ∀ d, has (both a (f, t)) d ↔ (a.1 ≤ d ∧ d ≤ a.2) ∧ f ≤ d ∧ d ≤ t := by
      intro d
      unfold both
      split
      · simp [has]; omega
      · rename_i e
        simp [has]
        simp at e
        omega
    constructor
    · have key : ∀ T, NF (max (a.2 + 2) f) T ∨ T = [] → NF (max lo f) (both a (f, t) ++ T) := by
        intro T hT
        unfold both
        split
        · rename_i e
          simp only at e
          refine ⟨by simp only; omega, by unfold ok; simp only; omega, ?_⟩
          rcases hT with hT | rfl
          · exact hT.mono (by simp only; omega)
          · trivial
        · rcases hT with hT | rfl
          · exact hT.mono (by omega)
          · trivial
      rw [meet]
      split
      · exact key _ (.inl n1)
      · exact key _ (.inr (Sets.meet_nil_right _))
    · intro d
      rw [meet, Sets.has_append, hb, Sets.has_cons]
      split
      · rw [n2 d]
        constructor
        · rintro (h | h)
          · exact ⟨.inl h.1, h.2⟩
          · exact ⟨.inr h.1, h.2⟩
        · rintro ⟨h | h, h'⟩
          · exact .inl ⟨h, h'⟩
          · exact .inr ⟨h, h'⟩
      · rename_i e
        simp only at e
        rw [Sets.meet_nil_right]
        constructor
        · rintro (h | h)
          · exact ⟨.inl h.1, h.2⟩
          · exact absurd h (Sets.has_nil d)
        · rintro ⟨h | h, h'⟩
          · exact .inl ⟨h, h'⟩
          · have := l3.ge h
            omega

theorem whole_meet {k i f t : Int} (hk : isK k) (h0 : 0 ≤ f) (h1 : t ≤ 730499) : meet (whole k i (yr f) (idN f t)) [(f, t)] = idS k i f t := by
  obtain ⟨a, b⟩ := meet_up h0 h1 (whole_up hk i (idN f t) (yr f)).1
  refine idS_uniq h0 h1 a fun n => ?_
  rw [b n, whole_has]
  constructor
  · rintro ⟨⟨j, c, d, e⟩, f1, f2⟩
    exact ⟨f1, f2, by rw [onI, e, d]⟩
  · rintro ⟨f1, f2, c⟩
    have p := yr_le f1
    have q := yr_le f2
    have r := onY_bd k n
    refine ⟨⟨(onY k n - yr f).toNat, by unfold idN; omega, ?_, by omega⟩, f1, f2⟩
    rw [show yr f + (((onY k n - yr f).toNat : Nat) : Int) = onY k n by omega]
    exact c

end Go.Proofs.Ytfienklaafialaa.Ind
