/- Contracts of impl's and spec's OldEaster, NewEaster and LocalEaster. -/
import Derived.Test.YtegoiiconhgjbaaEasB
import Derived.Test.YtegoiiconhgjbaaPlcA
namespace Go.Proofs.Ytegoiiconhgjbaa.Eas
open Go.RowKit
open Go.Proofs.Ytegoiiconhgjbaa.Plc

/-! ### spec -/
set_option maxHeartbeats 400000 in
theorem spec_OldEaster (y : Int) (w : World) : Calls Try.prog 56 #[.int .i64 y] w (Two (oldN y) (yErr y) w) := by
  by_cases hy : isY y
  · have H := Lib.hid (show oE y = oldN y ∧ 0 = yErr y by simp [oldN, yErr, hy])
    have Y := Lib.hid (spec_year_yes y hy)
    have A1 := Lib.hid (spec_old y hy)
    have A2 := Lib.hid (spec_num false y (oM y) (oD y) (oE y) (o_valid y hy) rfl)
    clear hy
    generalize oM y = m at A1 A2
    generalize oD y = d at A1 A2
    generalize oE y = n at A2 H
    go_enter Try.func56, Try.ntmps56
    go_wp2_with fail
    refine (Y.out _).mono ?_
    rintro e w1 ⟨rfl, rfl⟩
    go_wp2_with fail
    refine (A1.out _).mono ?_
    rintro e w1 ⟨rfl, hb⟩
    go_wp2_with fail
    refine (A2.out _).mono ?_
    rintro e w2 ⟨rfl, hb2⟩
    go_wp2_with fail
    go_ret2
    exact ⟨ret_ii H.out.1 H.out.2, hb.trans (hb2.mono hb.size)⟩
  · have H := Lib.hid (show 0 = oldN y ∧ 2 = yErr y by simp [oldN, yErr, hy])
    have Y := Lib.hid (spec_year_no y hy)
    clear hy
    go_enter Try.func56, Try.ntmps56
    go_wp2_with fail
    refine (Y.out _).mono ?_
    rintro e w1 ⟨rfl, rfl⟩
    go_wp2_with fail
    go_ret2
    exact ⟨ret_ii H.out.1 H.out.2, Below.refl _ _⟩

set_option maxHeartbeats 400000 in
theorem spec_NewEaster (y : Int) (w : World) : Calls Try.prog 57 #[.int .i64 y] w (Two (newN y) (newErr y) w) := by
  by_cases hy : isN y
  · have H := Lib.hid (show nE y = newN y ∧ 0 = newErr y by simp [newN, newErr, hy])
    have Y := Lib.hid (spec_in_yes y 1583 2000 hy)
    have A1 := Lib.hid (spec_l04New y hy)
    clear hy
    generalize nE y = n at A1 H
    go_enter Try.func57, Try.ntmps57
    go_wp2_with fail
    refine (Y.out _).mono ?_
    rintro e w1 ⟨rfl, rfl⟩
    go_wp2_with fail
    refine (A1.out _).mono ?_
    rintro e w1 ⟨rfl, hb⟩
    go_wp2_with fail
    go_ret2
    exact ⟨ret_ii H.out.1 H.out.2, hb⟩
  · have H := Lib.hid (show 0 = newN y ∧ 2 = newErr y by simp [newN, newErr, hy])
    have Y := Lib.hid (spec_in_no y 1583 2000 hy)
    clear hy
    go_enter Try.func57, Try.ntmps57
    go_wp2_with fail
    refine (Y.out _).mono ?_
    rintro e w1 ⟨rfl, rfl⟩
    go_wp2_with fail
    go_ret2
    exact ⟨ret_ii H.out.1 H.out.2, Below.refl _ _⟩

/-- Easter at a place: the number and the code. -/
def locN (R y : Int) : Int := if Loc.isCal R ∧ isY y then lcN R y else 0
def locE (R y : Int) : Int := if Loc.isCal R then (if isY y then (if lcB R y = true then 0 else 4) else 2) else 1
def IB (a : Int) (b : Bool) (w : World) (e : Ending) (w' : World) : Prop := e = .returned (.tuple #[.int .i64 a, .bool b]) ∧ Below w.heap.size w w'
theorem ret_ib {a a' : Int} {b b' : Bool} (h : a = a') (h1 : b = b') : Ending.returned (.tuple #[.int .i64 a, .bool b]) = .returned (.tuple #[.int .i64 a', .bool b']) := by rw [h, h1]
/-- The four ways that Easter at a place goes. -/
theorem lc_ways (R y : Int) (hy : isY y) : (oE y < R ∧ lcN R y = oE y ∧ lcB R y = true) ∨ (R ≤ oE y ∧ y < 1583 ∧ lcN R y = 0 ∧ lcB R y = false) ∨
    (R ≤ oE y ∧ isN y ∧ nE y < R ∧ lcN R y = 0 ∧ lcB R y = false) ∨ (R ≤ oE y ∧ isN y ∧ R ≤ nE y ∧ lcN R y = nE y ∧ lcB R y = true) := by
  obtain ⟨y1, y2⟩ := hy
  unfold lcN lcB isN
  by_cases h1 : oE y < R
  · exact .inl ⟨h1, if_pos h1, decide_eq_true (.inl h1)⟩
  · rw [if_neg h1]
    by_cases h2 : y < 1583
    · exact .inr (.inl ⟨by omega, h2, if_pos h2, decide_eq_false (by omega)⟩)
    · rw [if_neg h2]
      by_cases h3 : nE y < R
      · exact .inr (.inr (.inl ⟨by omega, ⟨by omega, y2⟩, h3, if_pos h3, decide_eq_false (by omega)⟩))
      · exact .inr (.inr (.inr ⟨by omega, ⟨by omega, y2⟩, by omega, if_neg h3, decide_eq_true (.inr ⟨by omega, by omega⟩)⟩))

end Go.Proofs.Ytegoiiconhgjbaa.Eas
