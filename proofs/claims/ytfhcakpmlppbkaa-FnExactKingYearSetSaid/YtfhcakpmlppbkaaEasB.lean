/- Contracts of impl's and spec's days of Easter: OldEaster, NewEaster and what they call. -/
import Derived.Test.YtfhcakpmlppbkaaEasA
namespace Go.Proofs.Ytfhcakpmlppbkaa.Eas
open Go.RowKit

def DateV (y m d : Int) (w : World) (e : Ending) (w' : World) : Prop := e = .returned (.agg #[.int .i64 y, .int .i64 m, .int .i64 d]) ∧ Below w.heap.size w w'
def It (a : Int) (w : World) (e : Ending) (w' : World) : Prop := e = .returned (.int .i64 a) ∧ Below w.heap.size w w'
theorem ret_agg {a b c a' b' c' : Int} (h : a = a') (h1 : b = b') (h2 : c = c') : Ending.returned (.agg #[.int .i64 a, .int .i64 b, .int .i64 c]) = .returned (.agg #[.int .i64 a', .int .i64 b', .int .i64 c']) := by rw [h, h1, h2]
def oldN (y : Int) : Int := if isY y then oE y else 0
def isN (y : Int) : Prop := 1583 ≤ y ∧ y ≤ 2000
instance (y : Int) : Decidable (isN y) := by unfold isN; exact inferInstance
theorem isN.y {y : Int} (h : isN y) : isY y := ⟨by have := h.1; omega, h.2⟩
def newN (y : Int) : Int := if isN y then nE y else 0
def newErr (y : Int) : Int := if isN y then 0 else 2

theorem spec_in_no (n lo hi : Int) (h : ¬ (lo ≤ n ∧ n ≤ hi)) (w : World) : Calls Try.prog 55 #[.int .i64 n, .int .i64 lo, .int .i64 hi] w fun e w' => e = .returned (.bool false) ∧ w = w' := by
  have := spec_in n lo hi w
  rwa [inB_false h] at this

theorem spec_in_yes (n lo hi : Int) (h : lo ≤ n ∧ n ≤ hi) (w : World) : Calls Try.prog 55 #[.int .i64 n, .int .i64 lo, .int .i64 hi] w fun e w' => e = .returned (.bool true) ∧ w = w' := by
  have := spec_in n lo hi w
  rwa [inB_true h] at this

theorem spec_num (f : Bool) (y m d n : Int) (hv : Cal.valid f y m d) (hn : Cal.num f y m d = n) (w : World) : Calls Try.prog 71 #[.agg #[.int .i64 y, .int .i64 m, .int .i64 d], .bool f] w (It n w) := by
  subst hn
  have dm := (Cal.mlen_bd f y m).2
  obtain ⟨y1, y2, m1, m2, d1, d2⟩ := hv
  exact spec_number f y m d y1 (by omega) m1 (by omega) (by omega) (by omega) w

/-- The two products of the new rule, as the walk writes them. -/
theorem new_bd (y : Int) : (0 ≤ 29 / ((19 * (y % 19) + y / 100 - y / 100 / 4 - (8 * (y / 100) + 13) / 25 + 15) % 30 + 1) * ((21 - y % 19) / 11) ∧ 29 / ((19 * (y % 19) + y / 100 - y / 100 / 4 - (8 * (y / 100) + 13) / 25 + 15) % 30 + 1) * ((21 - y % 19) / 11) ≤ 29) ∧
    (0 ≤ (19 * (y % 19) + y / 100 - y / 100 / 4 - (8 * (y / 100) + 13) / 25 + 15) % 30 - (19 * (y % 19) + y / 100 - y / 100 / 4 - (8 * (y / 100) + 13) / 25 + 15) % 30 / 28 * (1 - 29 / ((19 * (y % 19) + y / 100 - y / 100 / 4 - (8 * (y / 100) + 13) / 25 + 15) % 30 + 1) * ((21 - y % 19) / 11)) ∧
      (19 * (y % 19) + y / 100 - y / 100 / 4 - (8 * (y / 100) + 13) / 25 + 15) % 30 - (19 * (y % 19) + y / 100 - y / 100 / 4 - (8 * (y / 100) + 13) / 25 + 15) % 30 / 28 * (1 - 29 / ((19 * (y % 19) + y / 100 - y / 100 / 4 - (8 * (y / 100) + 13) / 25 + 15) % 30 + 1) * ((21 - y % 19) / 11)) ≤ 28) :=
  ⟨nP_bd y, nI_bd y⟩

end Go.Proofs.Ytfhcakpmlppbkaa.Eas
