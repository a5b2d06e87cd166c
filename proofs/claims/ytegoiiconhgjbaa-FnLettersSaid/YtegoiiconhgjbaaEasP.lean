/- What the law on Easters needs of a year: the answers with what holds of them. -/
import Derived.Test.YtegoiiconhgjbaaEasF
import Derived.Test.YtegoiiconhgjbaaEasH
namespace Go.Proofs.Ytegoiiconhgjbaa.Eas
open Go.RowKit

def DateC (y m d : Int) (w : World) (e : Ending) (w' : World) : Prop := e = .returned (.tuple #[.agg #[.int .i64 y, .int .i64 m, .int .i64 d], .int .i64 0]) ∧ Below w.heap.size w w'

theorem impl_Sunday (n : Int) (h0 : 0 ≤ n) (h1 : n ≤ 730499) (e : (n + 5) % 7 = 6) (w : World) : Calls Try.prog 31 #[.int .i64 n] w (Two 6 0 w) := by
  have h := impl_WeekdayOf n w
  rw [show wkNum n = 6 by unfold wkNum; rw [if_pos ⟨h0, h1⟩]; exact e, show wkErr n = 0 by unfold wkErr; rw [if_pos ⟨h0, h1⟩]] at h
  exact h

theorem dateIs_num {f : Bool} {y m d : Int} (hv : Cal.valid f y m d) : DateIs f (Cal.num f y m d) y m d 0 := by
  obtain ⟨h1, h2⟩ := Cal.num_range f hv
  exact .inl ⟨h1, h2, rfl, hv, rfl⟩

theorem impl_OldDateE (y : Int) (h : isY y) (w : World) : Calls Try.prog 29 #[.int .i64 (oE y)] w (DateC y (oM y) (oD y) w) := by
  refine (impl_OldDate (oE y) w).mono ?_
  rintro e w' ⟨y', m', d', c', rfl, hd, hb⟩
  obtain ⟨rfl, rfl, rfl, rfl⟩ := hd.uniq (dateIs_num (o_valid y h))
  exact ⟨rfl, hb⟩

/-- Of the year of the old rule: both programs' answers, and what is true of them. -/
theorem old_pack (y : Int) : ∃ o b t : Int, Hid (∀ w, Calls Try.prog 28 #[.int .i64 y] w (Two o b w)) ∧ Hid (∀ w, Calls Try.prog 56 #[.int .i64 y] w (Two o b w)) ∧
    Hid (∀ w, Calls Try.prog 60 #[.int .i64 y] w (Two t b w)) ∧ Hid (∀ w, Calls Try.prog 59 #[.int .i64 y] w (Two t b w)) ∧
    Hid ((b = 0 ∧ t < o ∧ o ≤ t + 7 ∧ 0 ≤ t ∧ o ≤ 730499 ∧ Hid (∀ w, Calls Try.prog 31 #[.int .i64 o] w (Two 6 0 w)) ∧ ∃ M D : Int, Hid (∀ w, Calls Try.prog 29 #[.int .i64 o] w (DateC y M D w)) ∧ ((M = 3 ∧ 22 ≤ D) ∨ (M = 4 ∧ D ≤ 25))) ∨ b = 2) := by
  refine ⟨oldN y, yErr y, termN y, Lib.hid (impl_OldEaster y), Lib.hid (spec_OldEaster y), Lib.hid (impl_EasterTerm y), Lib.hid (spec_EasterTerm y), Lib.hid ?_⟩
  by_cases h : isY y
  · refine .inl ?_
    have e1 := oE_eq y
    have e2 := delay_bd y
    have e3 := gap_bd y
    have e4 := num_321 y h
    have e5 := oE_bd y h
    have e6 := oM_or y
    rw [show oldN y = oE y from if_pos h, show yErr y = 0 from if_pos h, show termN y = Cal.num false y 3 21 + delay y from if_pos h]
    exact ⟨rfl, by omega, by omega, by omega, by omega, Lib.hid (impl_Sunday (oE y) (by omega) (by omega) (oE_sunday y)), oM y, oD y, Lib.hid (impl_OldDateE y h), by omega⟩
  · exact .inr (if_neg h)

end Go.Proofs.Ytegoiiconhgjbaa.Eas
