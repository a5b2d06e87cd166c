/- Contracts of the functions of chapter 1 that are asked from outside: whether a date is one, its day, the date of a day, the weekday; of impl and of spec, for the same answers. -/
import Derived.Test.YtfhcakpmlppbkaaGreatDoorDays2
import Derived.Test.YtfhcakpmlppbkaaGreatDoorDays3
import Derived.Test.YtfhcakpmlppbkaaGreatDoorDaysT
namespace Go.Proofs.YtfhcakpmlppbkaaGreatDoor
open Go.RowKit

theorem frame {W w1 : World} (hb : Below W.heap.size W w1) : (∀ b o, b < W.heap.size → w1.cell? ⟨b, o, none⟩ = W.cell? ⟨b, o, none⟩) ∧ (∀ b o, b < W.heap.size → w1.frozen? ⟨b, o, none⟩ = W.frozen? ⟨b, o, none⟩) ∧ W.heap.size ≤ w1.heap.size :=
  ⟨(bcell hb).1, (bcell hb).2, hb.size⟩

/-- The answer of OldDay and NewDay. -/
def dayNum (f : Bool) (y m d : Int) : Int := if Cal.valid f y m d then Cal.num f y m d else 0
def dayErr (f : Bool) (y m d : Int) : Int := if Cal.valid f y m d then 0 else 1
/-- What a call leaves that answers two numbers. -/
def Two (a b : Int) (w : World) (e : Ending) (w' : World) : Prop := e = .returned (.tuple #[.int .i64 a, .int .i64 b]) ∧ Below w.heap.size w w'
def Bl (b : Bool) (w : World) (e : Ending) (w' : World) : Prop := e = .returned (.bool b) ∧ Below w.heap.size w w'

theorem impl_dayOf (f : Bool) (y m d : Int) (w : World) :
    Calls Tryz.prog 159 #[.agg #[.int .i64 y, .int .i64 m, .int .i64 d], .int .i64 (rk f)] w (Two (dayNum f y m d) (dayErr f y m d) w) := by
  by_cases hv : Cal.valid f y m d
  · exact (impl_number f y m d hv w).mono fun e w' ⟨h1, h2⟩ => ⟨by rw [h1]; simp [dayNum, dayErr, hv], h2⟩
  · exact (impl_number_no f y m d (vb_false hv) w).mono fun e w' ⟨h1, h2⟩ => ⟨by rw [h1]; simp [dayNum, dayErr, hv], h2⟩

/-- The date of a day, or the refusal, as an answer of four numbers. -/
def DateIs (f : Bool) (n y m d c : Int) : Prop :=
  (Cal.ys f 1 ≤ n ∧ n < Cal.ys f 2001 ∧ c = 0 ∧ Cal.valid f y m d ∧ Cal.num f y m d = n) ∨ ((n < Cal.ys f 1 ∨ Cal.ys f 2001 ≤ n) ∧ c = 2 ∧ y = 0 ∧ m = 0 ∧ d = 0)
theorem DateIs.uniq {f : Bool} {n y m d c y' m' d' c' : Int} (h : DateIs f n y m d c) (h' : DateIs f n y' m' d' c') : y = y' ∧ m = m' ∧ d = d' ∧ c = c' := by
  rcases h with ⟨a1, a2, rfl, hv, hn⟩ | ⟨a, rfl, rfl, rfl, rfl⟩ <;> rcases h' with ⟨b1, b2, rfl, hv', hn'⟩ | ⟨b, rfl, rfl, rfl, rfl⟩
  · obtain ⟨e1, e2, e3⟩ := Cal.num_inj f hv hv' (hn.trans hn'.symm)
    exact ⟨e1, e2, e3, rfl⟩
  · omega
  · omega
  · exact ⟨rfl, rfl, rfl, rfl⟩
/-- What a call leaves that answers a date and a code. -/
def DateRet (f : Bool) (n : Int) (w : World) (e : Ending) (w' : World) : Prop :=
  ∃ y m d c : Int, e = .returned (.tuple #[.agg #[.int .i64 y, .int .i64 m, .int .i64 d], .int .i64 c]) ∧ DateIs f n y m d c ∧ Below w.heap.size w w'

theorem impl_dateOf (f : Bool) (n : Int) (w : World) : Calls Tryz.prog 92 #[.int .i64 (rk f), .int .i64 n] w (DateRet f n w) := by
  by_cases h1 : Cal.ys f 1 ≤ n
  · by_cases h2 : n < Cal.ys f 2001
    · exact (impl_date f n h1 h2 w).mono fun e w' ⟨y, m, d, he, hv, hn, hb⟩ => ⟨y, m, d, 0, he, .inl ⟨h1, h2, rfl, hv, hn⟩, hb⟩
    · exact (impl_date_no f n (by omega) w).mono fun e w' ⟨he, hb⟩ => ⟨0, 0, 0, 2, he, .inr ⟨by omega, rfl, rfl, rfl, rfl⟩, hb⟩
  · exact (impl_date_no f n (by omega) w).mono fun e w' ⟨he, hb⟩ => ⟨0, 0, 0, 2, he, .inr ⟨by omega, rfl, rfl, rfl, rfl⟩, hb⟩

/-- The weekday and the code of a day. -/
def wkNum (n : Int) : Int := if 0 ≤ n ∧ n ≤ 730499 then (n + 5) % 7 else 0
def wkErr (n : Int) : Int := if 0 ≤ n ∧ n ≤ 730499 then 0 else 2

end Go.Proofs.YtfhcakpmlppbkaaGreatDoor
