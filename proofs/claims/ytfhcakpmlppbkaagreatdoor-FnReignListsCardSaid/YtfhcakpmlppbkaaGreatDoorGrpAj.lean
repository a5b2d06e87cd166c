/- Texts of a claim in one file: EasA EasB. -/
import Derived.Test.YtfhcakpmlppbkaaGreatDoorGrpAi
import Derived.Test.YtfhcakpmlppbkaaGreatDoorGrpAe
import Derived.OwnWalk
namespace Go.Proofs.YtfhcakpmlppbkaaGreatDoor.Eas
open Go.RowKit

def goldN (y : Int) : Int := if isY y then y % 19 + 1 else 0
def yErr (y : Int) : Int := if isY y then 0 else 2
def letA (y : Int) : Int := if isY y then 6 - (Cal.ys false y + 5) % 7 else 0
def letB (y : Int) : Int := if isY y then (if Cal.lp false y then (6 - (Cal.ys false y + 5) % 7 + 6) % 7 else 6 - (Cal.ys false y + 5) % 7) else 0
def termN (y : Int) : Int := if isY y then Cal.num false y 3 21 + delay y else 0
def Three (a b c : Int) (w : World) (e : Ending) (w' : World) : Prop := e = .returned (.tuple #[.int .i64 a, .int .i64 b, .int .i64 c]) ∧ Below w.heap.size w w'
theorem ret_iii {a b c a' b' c' : Int} (h : a = a') (h1 : b = b') (h2 : c = c') : Ending.returned (.tuple #[.int .i64 a, .int .i64 b, .int .i64 c]) = .returned (.tuple #[.int .i64 a', .int .i64 b', .int .i64 c']) := by rw [h, h1, h2]

/-! ### the Sunday letters -/
theorem wk_ys (y : Int) (h : isY y) : wkNum (Cal.ys false y) = (Cal.ys false y + 5) % 7 ∧ 0 ≤ Cal.ys false y ∧ Cal.ys false y ≤ 730499 := by
  have b := Cal.ys_bd false y h.1 (by have := h.2; omega)
  have c := Cal.ys_mono false y 2001 (by have := h.2; omega)
  rw [Cal.ys_2001] at c
  have e : Cal.ys false y ≤ 730499 := by have := h.2; simp at c; omega
  exact ⟨by simp [wkNum, b.1, e], b.1, e⟩

theorem num_11 (y : Int) : Cal.num false y 1 1 = Cal.ys false y := by unfold Cal.num; rw [Cal.cum_one]; omega

set_option maxHeartbeats 400000 in
theorem impl_oldDayOf (y m d : Int) (hv : Cal.valid false y m d) (w : World) : Calls Tryz.prog 145 #[.int .i64 y, .int .i64 m, .int .i64 d] w fun e w' => e = .returned (.int .i64 (Cal.num false y m d)) ∧ Below w.heap.size w w' := by
  have A1 := Lib.hid (show ∀ w, Calls Tryz.prog 159 #[.agg #[.int .i64 y, .int .i64 m, .int .i64 d], .int .i64 0] w (Two (Cal.num false y m d) 0 w) from impl_number false y m d hv)
  clear hv
  generalize Cal.num false y m d = n at *
  go_enter Tryz.func145, Tryz.ntmps145
  go_wp2_with fail
  refine (A1.out _).mono ?_
  rintro e w1 ⟨rfl, hb⟩
  go_wp2_with fail
  go_ret
  exact ⟨rfl, hb⟩

end Go.Proofs.YtfhcakpmlppbkaaGreatDoor.Eas

namespace Go.Proofs.YtfhcakpmlppbkaaGreatDoor.Eas
open Go.RowKit

def DateV (y m d : Int) (w : World) (e : Ending) (w' : World) : Prop := e = .returned (.agg #[.int .i64 y, .int .i64 m, .int .i64 d]) ∧ Below w.heap.size w w'
def It (a : Int) (w : World) (e : Ending) (w' : World) : Prop := e = .returned (.int .i64 a) ∧ Below w.heap.size w w'
theorem ret_agg {a b c a' b' c' : Int} (h : a = a') (h1 : b = b') (h2 : c = c') : Ending.returned (.agg #[.int .i64 a, .int .i64 b, .int .i64 c]) = .returned (.agg #[.int .i64 a', .int .i64 b', .int .i64 c']) := by rw [h, h1, h2]
def oldN (y : Int) : Int := if isY y then oE y else 0
def isN (y : Int) : Prop := 1583 ≤ y ∧ y ≤ 2000
instance (y : Int) : Decidable (isN y) := by unfold isN; exact inferInstance
theorem isN.y {y : Int} (h : isN y) : isY y := ⟨by have := h.1; omega, h.2⟩
def newN (y : Int) : Int := if isN y then nE y else 0
def newErr (y : Int) : Int := if isN y then 0 else 2

theorem spec_in_no (n lo hi : Int) (h : ¬ (lo ≤ n ∧ n ≤ hi)) (w : World) : Calls Tryz.prog 90 #[.int .i64 n, .int .i64 lo, .int .i64 hi] w fun e w' => e = .returned (.bool false) ∧ w = w' := by
  have := spec_in n lo hi w
  rwa [inB_false h] at this

theorem spec_in_yes (n lo hi : Int) (h : lo ≤ n ∧ n ≤ hi) (w : World) : Calls Tryz.prog 90 #[.int .i64 n, .int .i64 lo, .int .i64 hi] w fun e w' => e = .returned (.bool true) ∧ w = w' := by
  have := spec_in n lo hi w
  rwa [inB_true h] at this

theorem spec_num (f : Bool) (y m d n : Int) (hv : Cal.valid f y m d) (hn : Cal.num f y m d = n) (w : World) : Calls Tryz.prog 110 #[.agg #[.int .i64 y, .int .i64 m, .int .i64 d], .bool f] w (It n w) := by
  subst hn
  have dm := (Cal.mlen_bd f y m).2
  obtain ⟨y1, y2, m1, m2, d1, d2⟩ := hv
  exact spec_number f y m d y1 (by omega) m1 (by omega) (by omega) (by omega) w

/-- The two products of the new rule, as the walk writes them. -/
theorem new_bd (y : Int) : (0 ≤ 29 / ((19 * (y % 19) + y / 100 - y / 100 / 4 - (8 * (y / 100) + 13) / 25 + 15) % 30 + 1) * ((21 - y % 19) / 11) ∧ 29 / ((19 * (y % 19) + y / 100 - y / 100 / 4 - (8 * (y / 100) + 13) / 25 + 15) % 30 + 1) * ((21 - y % 19) / 11) ≤ 29) ∧
    (0 ≤ (19 * (y % 19) + y / 100 - y / 100 / 4 - (8 * (y / 100) + 13) / 25 + 15) % 30 - (19 * (y % 19) + y / 100 - y / 100 / 4 - (8 * (y / 100) + 13) / 25 + 15) % 30 / 28 * (1 - 29 / ((19 * (y % 19) + y / 100 - y / 100 / 4 - (8 * (y / 100) + 13) / 25 + 15) % 30 + 1) * ((21 - y % 19) / 11)) ∧
      (19 * (y % 19) + y / 100 - y / 100 / 4 - (8 * (y / 100) + 13) / 25 + 15) % 30 - (19 * (y % 19) + y / 100 - y / 100 / 4 - (8 * (y / 100) + 13) / 25 + 15) % 30 / 28 * (1 - 29 / ((19 * (y % 19) + y / 100 - y / 100 / 4 - (8 * (y / 100) + 13) / 25 + 15) % 30 + 1) * ((21 - y % 19) / 11)) ≤ 28) :=
  ⟨nP_bd y, nI_bd y⟩

end Go.Proofs.YtfhcakpmlppbkaaGreatDoor.Eas
