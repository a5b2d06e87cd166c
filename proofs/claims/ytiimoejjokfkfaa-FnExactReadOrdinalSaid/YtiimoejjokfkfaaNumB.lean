/- Contracts of spec's ways to write a form, CountForms, and what a letter counts. -/
import Derived.Test.YtiimoejjokfkfaaNumA
import Derived.Test.YtiimoejjokfkfaaPlain
namespace Go.Proofs.Ytiimoejjokfkfaa.Num
open Go.RowKit

theorem ways_step (l : List UInt8) (k : Nat) (h : k < l.length) : ways (l.drop k) = (if l[k] = 118 ∨ (l[k] = 105 ∧ k + 1 = l.length) then 2 else 1) * ways (l.drop (k + 1)) := by
  rw [List.drop_eq_getElem_cons h]
  by_cases e : k + 1 = l.length
  · have e1 : l.drop (k + 1) = [] := List.drop_eq_nil_of_le (by omega)
    rw [e1]
    unfold ways
    simp [e]
  · rw [List.drop_eq_getElem_cons (show k + 1 < l.length by omega)]
    show ways (l[k] :: l[k + 1] :: l.drop (k + 1 + 1)) = _
    rw [ways]
    simp [e]

theorem ways_pos : ∀ (l : List UInt8), 1 ≤ ways l
  | [] => by simp [ways]
  | [a] => by unfold ways; split <;> omega
  | a :: b :: r => by
    have h := ways_pos (b :: r)
    unfold ways
    split <;> omega

theorem ways_le : ∀ (l : List UInt8), ways l ≤ 2 ^ l.length
  | [] => by simp [ways]
  | [a] => by unfold ways; split <;> simp
  | a :: b :: r => by
    have h := ways_le (b :: r)
    have p := ways_pos (b :: r)
    have e : (2 : Int) ^ (a :: b :: r).length = 2 * 2 ^ (b :: r).length := by
      rw [List.length_cons, Int.pow_succ, Int.mul_comm]
    rw [e]
    unfold ways
    split <;> omega

theorem ways_20 (l : List UInt8) (h : l.length ≤ 20) : ways l ≤ 1048576 := by
  have h1 := ways_le l
  have h2 : (2 : Int) ^ l.length ≤ 2 ^ 20 := by
    have := Nat.pow_le_pow_right (show 0 < 2 by omega) h
    exact_mod_cast this
  omega

theorem ways_mul {a b : Int} (h0 : 1 ≤ a) (h1 : 1 ≤ b) : a ≤ a * b := by
  have := Int.mul_le_mul_of_nonneg_left h1 (show 0 ≤ a by omega)
  omega

/-- What holds after k letters. -/
theorem ways_next {l : List UInt8} {k : Nat} {n T : Int} (hk : k < l.length) (h : n * ways (l.drop k) = T) (c : Int)
    (hc : (if l[k] = 118 ∨ (l[k] = 105 ∧ k + 1 = l.length) then 2 else 1) = c) : (c * n) * ways (l.drop (k + 1)) = T := by
  rw [ways_step l k hk, hc] at h
  rw [← h, Int.mul_comm c n, Int.mul_assoc]

theorem conv_ret {a b : Int} (h : a = b) : Ending.returned (.int .i64 a) = .returned (.int .i64 b) := by rw [h]

theorem cfN_in {m : Nat} (h : isN m) : cfN m = ways (formN m false) + (if formN m true = formN m false then 0 else ways (formN m true)) := by
  unfold cfN form
  rw [if_pos h, Int.toNat_natCast]

end Go.Proofs.Ytiimoejjokfkfaa.Num
