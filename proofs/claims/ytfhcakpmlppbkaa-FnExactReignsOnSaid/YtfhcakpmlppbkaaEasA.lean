/- Contracts and walks of the golden number, the Sunday letters and the Easter term, of impl and of spec. -/
import Derived.Test.YtfhcakpmlppbkaaDaysE
import Derived.Test.YtfhcakpmlppbkaaSt
import Derived.Test.YtfhcakpmlppbkaaEasM
import Derived.OwnWalk
namespace Go.Proofs.Ytfhcakpmlppbkaa.Eas
open Go.RowKit

def goldN (y : Int) : Int := if isY y then y % 19 + 1 else 0
def yErr (y : Int) : Int := if isY y then 0 else 2
def letA (y : Int) : Int := if isY y then 6 - (Cal.ys false y + 5) % 7 else 0
def letB (y : Int) : Int := if isY y then (if Cal.lp false y then (6 - (Cal.ys false y + 5) % 7 + 6) % 7 else 6 - (Cal.ys false y + 5) % 7) else 0
def termN (y : Int) : Int := if isY y then Cal.num false y 3 21 + delay y else 0
def Three (a b c : Int) (w : World) (e : Ending) (w' : World) : Prop := e = .returned (.tuple #[.int .i64 a, .int .i64 b, .int .i64 c]) ∧ Below w.heap.size w w'
theorem ret_iii {a b c a' b' c' : Int} (h : a = a') (h1 : b = b') (h2 : c = c') : Ending.returned (.tuple #[.int .i64 a, .int .i64 b, .int .i64 c]) = .returned (.tuple #[.int .i64 a', .int .i64 b', .int .i64 c']) := by rw [h, h1, h2]

/-! ### the Sunday letters -/
theorem wk_ys (y : Int) (h : isY y) : wkNum (Cal.ys false y) = (Cal.ys false y + 5) % 7 ∧ 0 ≤ Cal.ys false y ∧ Cal.ys false y ≤ 730499 := by
  have b := Cal.ys_bd false y h.1 (by have := h.2; omega)
  have c := Cal.ys_mono false y 2001 (by have := h.2; omega)
  rw [Cal.ys_2001] at c
  have e : Cal.ys false y ≤ 730499 := by have := h.2; simp at c; omega
  exact ⟨by simp [wkNum, b.1, e], b.1, e⟩

theorem num_11 (y : Int) : Cal.num false y 1 1 = Cal.ys false y := by unfold Cal.num; rw [Cal.cum_one]; omega

set_option maxHeartbeats 400000 in
theorem impl_oldDayOf (y m d : Int) (hv : Cal.valid false y m d) (w : World) : Calls Try.prog 91 #[.int .i64 y, .int .i64 m, .int .i64 d] w fun e w' => e = .returned (.int .i64 (Cal.num false y m d)) ∧ Below w.heap.size w w' := by
  have A1 := Lib.hid (show ∀ w, Calls Try.prog 97 #[.agg #[.int .i64 y, .int .i64 m, .int .i64 d], .int .i64 0] w (Two (Cal.num false y m d) 0 w) from impl_number false y m d hv)
  clear hv
  generalize Cal.num false y m d = n at *
  go_enter Try.func91, Try.ntmps91
  go_wp2_with fail
  refine (A1.out _).mono ?_
  rintro e w1 ⟨rfl, hb⟩
  go_wp2_with fail
  go_ret
  exact ⟨rfl, hb⟩

end Go.Proofs.Ytfhcakpmlppbkaa.Eas
