/- Contracts of the functions of chapter 1 (days), of impl and of spec, as they are called; the calendar arithmetic stands in the text Cal. -/
import Derived.Test.YtdpbikephjnndaaDoorProg
import Derived.Test.YtdpbikephjnndaaDoorCal
import Derived.WalkKit
import Derived.WalkSpells
import Derived.WalkLawsBesides
import Derived.Deep.QuietTactic
import Derived.BigQuiet
import Derived.Lib.Hide
namespace Go.Proofs.YtdpbikephjnndaaDoor
open Go.RowKit

/-- The word for a calendar: false is the old one, true the new one. -/
def rk (f : Bool) : Int := if f then 1 else 0

theorem ret_bool {a b : Bool} (h : a = b) : Ending.returned (.bool a) = .returned (.bool b) := by rw [h]
theorem ret_int {k : IntKind} {a b : Int} (h : a = b) : Ending.returned (.int k a) = .returned (.int k b) := by rw [h]

theorem ret_ii {k l : IntKind} {a b c d : Int} (h : a = b) (h' : c = d) : Ending.returned (.tuple #[.int k a, .int l c]) = .returned (.tuple #[.int k b, .int l d]) := by rw [h, h']
theorem bcell {W w1 : World} (hb : Below W.heap.size W w1) : (∀ b o, b < W.heap.size → w1.cell? ⟨b, o, none⟩ = W.cell? ⟨b, o, none⟩) ∧ (∀ b o, b < W.heap.size → w1.frozen? ⟨b, o, none⟩ = W.frozen? ⟨b, o, none⟩) :=
  ⟨fun b o h => hb.cell (p := ⟨b, o, none⟩) h, fun b o h => hb.frozen (p := ⟨b, o, none⟩) h⟩

/-- A date of a calendar, as a Bool that no rule opens. -/
def vb (f : Bool) (y m d : Int) : Bool := decide (Cal.valid f y m d)
theorem vb_true {f : Bool} {y m d : Int} (h : Cal.valid f y m d) : vb f y m d = true := by simp [vb, h]
theorem vb_false {f : Bool} {y m d : Int} (h : ¬ Cal.valid f y m d) : vb f y m d = false := by simp [vb, h]
theorem vb_iff {f : Bool} {y m d : Int} : vb f y m d = true ↔ Cal.valid f y m d := by simp [vb]

end Go.Proofs.YtdpbikephjnndaaDoor
