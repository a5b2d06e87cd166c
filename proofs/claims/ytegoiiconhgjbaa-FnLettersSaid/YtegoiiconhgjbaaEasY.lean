/- The years with an Easter: the mathematics. -/
import Derived.Test.YtegoiiconhgjbaaEasM
namespace Go.Proofs.Ytegoiiconhgjbaa.Eas

/-- The years from f on, n of them, with Easter on a month and a day. -/
def yw (m d f : Int) : Nat → List Int
  | 0 => []
  | n + 1 => yw m d f n ++ (if oM (f + n) = m ∧ oD (f + n) = d then [f + n] else [])
theorem yw_len (m d f : Int) (n : Nat) : (yw m d f n).length ≤ n := by
  induction n with
  | zero => simp [yw]
  | succ n ih => simp only [yw, List.length_append]; split <;> simp <;> omega
theorem yw_mem (m d f : Int) (n : Nat) (x : Int) (h : x ∈ yw m d f n) : f ≤ x ∧ x < f + n ∧ oM x = m ∧ oD x = d := by
  induction n with
  | zero => simp [yw] at h
  | succ n ih =>
    rw [yw, List.mem_append] at h
    rcases h with h | h
    · have := ih h; omega
    · split at h
      · rename_i e
        simp at h
        subst h
        exact ⟨by omega, by omega, e.1, e.2⟩
      · simp at h
def ywOk (m d f t : Int) : Prop := isY f ∧ f ≤ t ∧ t ≤ 2000 ∧ t ≤ f + 600 ∧ Cal.valid false 4 m d
instance (m d f t : Int) : Decidable (ywOk m d f t) := by unfold ywOk Cal.valid; exact inferInstance
def ywL (m d f t : Int) : List Int := if ywOk m d f t then yw m d f (t - f + 1).toNat else []
def ywE (m d f t : Int) : Int := if ywOk m d f t then 0 else 2
theorem ywL_len (m d f t : Int) : (ywL m d f t).length ≤ 2000000 := by
  unfold ywL
  split
  · rename_i h
    have := yw_len m d f (t - f + 1).toNat
    obtain ⟨-, h1, h2, h3, -⟩ := h
    omega
  · simp

end Go.Proofs.Ytegoiiconhgjbaa.Eas
