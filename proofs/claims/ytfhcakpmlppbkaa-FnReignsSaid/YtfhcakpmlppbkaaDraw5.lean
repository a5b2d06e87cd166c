/- Contracts of spec's drawing of a day, and of the draws of chapter 1 that the laws call. -/
import Derived.Test.YtfhcakpmlppbkaaDraw4
namespace Go.Proofs.Ytfhcakpmlppbkaa
open Go.RowKit

/-- What a call leaves that draws a number with a property out of some bytes. -/
def DrawnP (P : Int → Prop) (w : World) (e : Ending) (w' : World) : Prop := ∃ x : Int, e = .returned (.int .i64 x) ∧ P x ∧ Below w.heap.size w w'
/-- What a call leaves that draws a date out of some bytes. -/
def DrawnDate (w : World) (e : Ending) (w' : World) : Prop :=
  ∃ y m d : Int, e = .returned (.agg #[.int .i64 y, .int .i64 m, .int .i64 d]) ∧ (0 ≤ y ∧ y ≤ 3000) ∧ (0 ≤ m ∧ m ≤ 13) ∧ (0 ≤ d ∧ d ≤ 40) ∧ Below w.heap.size w w'
def dayish (x : Int) : Prop := -1 ≤ x ∧ x ≤ 730500

end Go.Proofs.Ytfhcakpmlppbkaa
