/- Plain facts on decimal texts of numbers, and on the texts of dates: lists of bytes, no Go in it. -/
import Derived.Test.YtfhcakpmlppbkaaGreatDoorCal
namespace Go.Proofs.YtfhcakpmlppbkaaGreatDoor.Txt

def dg (n : Int) : UInt8 := UInt8.ofNat (48 + n % 10).toNat
/-- The decimal text of a number, by a number of digits that suffices. -/
def decF : Nat → Int → List UInt8
  | 0, _ => []
  | k + 1, n => if n < 10 then [dg n] else decF k (n / 10) ++ [dg n]
def dec (n : Int) : List UInt8 := decF 19 n
def pad (k : Nat) (l : List UInt8) : List UInt8 := List.replicate (k - l.length) 48 ++ l
def p2 (n : Int) : List UInt8 := [dg (n / 10), dg n]
def p4 (n : Int) : List UInt8 := [dg (n / 1000), dg (n / 100), dg (n / 10), dg n]
def date (y m d : Int) : List UInt8 := p4 y ++ [45] ++ p2 m ++ [45] ++ p2 d

theorem decF_length (k : Nat) : ∀ n, (decF k n).length ≤ k := by
  induction k with
  | zero => intro n; simp [decF]
  | succ k ih =>
    intro n
    simp only [decF]
    split
    · simp
    · have := ih (n / 10); simp; omega
theorem dec_length (n : Int) : (dec n).length ≤ 19 := decF_length 19 n
theorem decF_pos (k : Nat) (n : Int) : 1 ≤ (decF (k + 1) n).length := by
  simp only [decF]; split <;> simp

theorem dg_0 : dg 0 = 48 := rfl
theorem dg_lt {n : Int} : (dg n).toNat = 48 + (n % 10).toNat := by
  unfold dg
  have h1 := Int.emod_nonneg n (show (10 : Int) ≠ 0 by decide)
  have h2 := Int.emod_lt_of_pos n (show (0 : Int) < 10 by decide)
  simp
  omega

theorem pad2 (n : Int) (h0 : 0 ≤ n) (h1 : n < 100) : pad 2 (dec n) = p2 n := by
  by_cases h : n < 10
  · have e : dec n = [dg n] := by simp [dec, decF, h]
    have e2 : n / 10 = 0 := by omega
    rw [e]; simp [pad, p2, e2, dg_0]
  · have e : dec n = [dg (n / 10), dg n] := by simp [dec, decF, h, show n / 10 < 10 by omega]
    rw [e]; simp [pad, p2]
theorem pad4 (n : Int) (h0 : 0 ≤ n) (h1 : n < 10000) : pad 4 (dec n) = p4 n := by
  have q1 : n / 10 / 10 = n / 100 := by omega
  have q2 : n / 100 / 10 = n / 1000 := by omega
  by_cases h : n < 10
  · have e : dec n = [dg n] := by simp [dec, decF, h]
    have e1 : n / 10 = 0 := by omega
    have e2 : n / 100 = 0 := by omega
    have e3 : n / 1000 = 0 := by omega
    rw [e]; simp [pad, p4, e1, e2, e3, dg_0]
  · by_cases h' : n < 100
    · have e : dec n = [dg (n / 10), dg n] := by simp [dec, decF, h, show n / 10 < 10 by omega]
      have e2 : n / 100 = 0 := by omega
      have e3 : n / 1000 = 0 := by omega
      rw [e]; simp [pad, p4, e2, e3, dg_0]
    · by_cases h'' : n < 1000
      · have e : dec n = [dg (n / 100), dg (n / 10), dg n] := by simp [dec, decF, h, show ¬ n / 10 < 10 by omega, show n / 100 < 10 by omega, q1]
        have e3 : n / 1000 = 0 := by omega
        rw [e]; simp [pad, p4, e3, dg_0]
      · have e : dec n = [dg (n / 1000), dg (n / 100), dg (n / 10), dg n] := by simp [dec, decF, h, show ¬ n / 10 < 10 by omega, show ¬ n / 100 < 10 by omega, show n / 1000 < 10 by omega, q1, q2]
        rw [e]; simp [pad, p4]

/-- The digits of a text, read as spec reads them: other bytes are passed over, at most nine bytes. -/
def isDg (c : UInt8) : Bool := 48 ≤ c.toNat && c.toNat ≤ 57
def plain (l : List UInt8) : Int := l.foldl (fun n c => if isDg c then 10 * n + (c.toNat - 48 : Int) else n) 0
def split (by_ : UInt8) : List UInt8 → List UInt8 → List (List UInt8)
  | [], cur => [cur]
  | c :: r, cur => if c = by_ then cur :: split by_ r [] else split by_ r (cur ++ [c])

theorem isDg_dg (n : Int) : isDg (dg n) = true := by
  unfold isDg
  rw [dg_lt]
  have h1 := Int.emod_nonneg n (show (10 : Int) ≠ 0 by decide)
  have h2 := Int.emod_lt_of_pos n (show (0 : Int) < 10 by decide)
  simp; omega
theorem dg_val (n : Int) : ((dg n).toNat : Int) - 48 = n % 10 := by
  rw [dg_lt]
  have h1 := Int.emod_nonneg n (show (10 : Int) ≠ 0 by decide)
  omega
theorem dg_ne (n : Int) : dg n ≠ 45 := by
  intro h
  have := congrArg UInt8.toNat h
  rw [dg_lt] at this
  simp at this
  omega
theorem plain_p2 (n : Int) (h0 : 0 ≤ n) (h1 : n < 100) : plain (p2 n) = n := by
  simp only [plain, p2, List.foldl, isDg_dg, if_true, dg_val]
  omega
theorem plain_p4 (n : Int) (h0 : 0 ≤ n) (h1 : n < 10000) : plain (p4 n) = n := by
  simp only [plain, p4, List.foldl, isDg_dg, if_true, dg_val]
  omega
theorem plain_snoc (l : List UInt8) (c : UInt8) : plain (l ++ [c]) = if isDg c then 10 * plain l + (c.toNat - 48 : Int) else plain l := by
  simp [plain, List.foldl_append]
theorem plain_bd (l : List UInt8) : 0 ≤ plain l ∧ plain l < 10 ^ l.length := by
  have h : ∀ (r : List UInt8), 0 ≤ plain r.reverse ∧ plain r.reverse < 10 ^ r.length := by
    intro r
    induction r with
    | nil => simp [plain]
    | cons c r ih =>
      rw [List.reverse_cons, plain_snoc, List.length_cons, Int.pow_succ]
      split
      · rename_i hd
        unfold isDg at hd
        simp at hd
        omega
      · omega
  have := h l.reverse
  simpa using this
theorem plain_bd9 (l : List UInt8) (h : l.length ≤ 9) : 0 ≤ plain l ∧ plain l ≤ 999999999 := by
  have := plain_bd l
  have h2 : (10 : Int) ^ l.length ≤ 10 ^ 9 := by
    have h3 : (10 : Nat) ^ l.length ≤ 10 ^ 9 := Nat.pow_le_pow_right (by decide) h
    exact_mod_cast h3
  omega
theorem split_date (y m d : Int) : split 45 (date y m d) [] = [p4 y, p2 m, p2 d] := by
  simp [date, p4, p2, split, dg_ne]

end Go.Proofs.YtfhcakpmlppbkaaGreatDoor.Txt
