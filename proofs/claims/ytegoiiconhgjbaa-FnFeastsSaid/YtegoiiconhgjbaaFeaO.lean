/- The mathematics of the days with a relation to a feast. -/
import Derived.Test.YtegoiiconhgjbaaFeaN
import Derived.Test.YtegoiiconhgjbaaSets
namespace Go.Proofs.Ytegoiiconhgjbaa.Fea
open Go.Proofs.Ytegoiiconhgjbaa.Eas (isY)
open Go.Proofs.Ytegoiiconhgjbaa.Sets (ok NF has make make_nf make_has make_length nf_unique)

/-- The days g y of the years from Y0 on, j of them, that lie from a to b, each as a span. -/
def pd (g : Int → Int) (a b Y0 : Int) : Nat → List (Int × Int)
  | 0 => []
  | j + 1 => pd g a b Y0 j ++ (if a ≤ g (Y0 + j) ∧ g (Y0 + j) ≤ b then [(g (Y0 + j), g (Y0 + j))] else [])
theorem pd_len (g : Int → Int) (a b Y0 : Int) (j : Nat) : (pd g a b Y0 j).length ≤ j := by
  induction j with
  | zero => simp [pd]
  | succ j ih => simp only [pd, List.length_append]; split <;> simp <;> omega
theorem pd_mem (g : Int → Int) (a b Y0 : Int) (j : Nat) (s : Int × Int) : s ∈ pd g a b Y0 j ↔ s.1 = s.2 ∧ a ≤ s.1 ∧ s.1 ≤ b ∧ ∃ i : Nat, i < j ∧ g (Y0 + i) = s.1 := by
  induction j with
  | zero => simp [pd]
  | succ j ih =>
    rw [pd, List.mem_append, ih]
    constructor
    · rintro (⟨h1, h2, h3, i, h4, h5⟩ | h)
      · exact ⟨h1, h2, h3, i, by omega, h5⟩
      · split at h
        · simp at h; rename_i e; subst h; exact ⟨rfl, e.1, e.2, j, by omega, rfl⟩
        · simp at h
    · rintro ⟨h1, h2, h3, i, h4, h5⟩
      by_cases e : i < j
      · exact .inl ⟨h1, h2, h3, i, e, h5⟩
      · have : i = j := by omega
        subst this
        refine .inr ?_
        rw [h5, if_pos ⟨h2, h3⟩]
        simp [Prod.ext_iff, h1]
theorem pd_has (g : Int → Int) (a b Y0 : Int) (j : Nat) (d : Int) : has (pd g a b Y0 j) d ↔ a ≤ d ∧ d ≤ b ∧ ∃ i : Nat, i < j ∧ g (Y0 + i) = d := by
  constructor
  · rintro ⟨s, hs, h1, h2⟩
    obtain ⟨e, k1, k2, i, k3, k4⟩ := (pd_mem g a b Y0 j s).1 hs
    have : d = s.1 := by omega
    subst this
    exact ⟨k1, k2, i, k3, k4⟩
  · rintro ⟨h1, h2, i, h3, h4⟩
    exact ⟨(d, d), (pd_mem g a b Y0 j _).2 ⟨rfl, h1, h2, i, h3, h4⟩, Int.le_refl _, Int.le_refl _⟩

/-- What FeastDays takes. -/
def FdOk (f r k a b : Int) : Prop := isF f ∧ isR r k ∧ 0 ≤ a ∧ a ≤ 730499 ∧ a ≤ b ∧ b ≤ 730499 ∧ b ≤ a + 73000
instance (f r k a b : Int) : Decidable (FdOk f r k a b) := by unfold FdOk; exact inferInstance
/-- What FeastDays answers. -/
def FdAns (f r k a b : Int) (V : List (Int × Int)) (c : Int) : Prop :=
  (FdOk f r k a b ∧ c = 0 ∧ V.length ≤ 300 ∧ NF 0 V ∧ ∀ d, has V d ↔ a ≤ d ∧ d ≤ b ∧ ∃ y, isY y ∧ rd r k (fd f y) = d) ∨ (¬ FdOk f r k a b ∧ c = 2 ∧ V = [])
theorem FdAns.uniq {f r k a b c c' : Int} {V V' : List (Int × Int)} (h : FdAns f r k a b V c) (h' : FdAns f r k a b V' c') : V = V' ∧ c = c' := by
  rcases h with ⟨h1, h2, h3, h4, h5⟩ | ⟨h1, h2, h3⟩ <;> rcases h' with ⟨k1, k2, k3, k4, k5⟩ | ⟨k1, k2, k3⟩
  · exact ⟨nf_unique h4 k4 fun d => (h5 d).trans (k5 d).symm, by omega⟩
  · exact (k1 h1).elim
  · exact (h1 k1).elim
  · exact ⟨h3.trans k3.symm, by omega⟩
/-- A related day's year is near. -/
theorem rd_year (f r k y : Int) : yr (rd r k (fd f y)) - 1 ≤ y ∧ y ≤ yr (rd r k (fd f y)) + 1 := by
  have h := fd_in f y
  have g := rd_bd r k (fd f y)
  rw [ys_old, ys_old] at h
  unfold yr
  generalize rd r k (fd f y) = d at g ⊢
  generalize fd f y = n at g h
  omega
theorem yr_mono {a b : Int} (h : a ≤ b) : yr a ≤ yr b := by unfold yr; omega
/-- The years that are looked at are enough. -/
theorem pd_ans {f r k a b : Int} (h : FdOk f r k a b) {Y0 Y1 : Int} (h0 : max 1 (yr a - 1) = Y0) (h1 : min 2000 (yr b + 1) = Y1) (N : Nat) (hN : (N : Int) = Y1 + 1 - Y0) :
    (∀ s ∈ pd (fun y => rd r k (fd f y)) a b Y0 N, ok s) ∧ N ≤ 300 ∧ FdAns f r k a b (make (pd (fun y => rd r k (fd f y)) a b Y0 N)) 0 := by
  have hok : ∀ s ∈ pd (fun y => rd r k (fd f y)) a b Y0 N, ok s := by
    intro s hs
    obtain ⟨e, k1, k2, -⟩ := (pd_mem _ _ _ _ _ _).1 hs
    obtain ⟨-, -, p0, p1, p2, p3, p4⟩ := h
    exact ⟨by omega, by omega, by omega⟩
  have hl : N ≤ 300 := by
    obtain ⟨-, -, p0, p1, p2, p3, p4⟩ := h
    unfold yr at h0 h1
    omega
  refine ⟨hok, hl, .inl ⟨h, rfl, Nat.le_trans (make_length _) (Nat.le_trans (pd_len _ _ _ _ _) hl), make_nf hok, fun d => ?_⟩⟩
  rw [make_has hok, pd_has]
  constructor
  · rintro ⟨k1, k2, i, k3, k4⟩
    refine ⟨k1, k2, Y0 + i, ⟨by omega, by omega⟩, k4⟩
  · rintro ⟨k1, k2, y, hy, e⟩
    have hr := rd_year f r k y
    rw [e] at hr
    have m1 := yr_mono k1
    have m2 := yr_mono k2
    obtain ⟨y1, y2⟩ := hy
    refine ⟨k1, k2, (y - Y0).toNat, by omega, ?_⟩
    show rd r k (fd f (Y0 + ((y - Y0).toNat : Int))) = d
    rw [show Y0 + ((y - Y0).toNat : Int) = y by omega]
    exact e

end Go.Proofs.Ytegoiiconhgjbaa.Fea
