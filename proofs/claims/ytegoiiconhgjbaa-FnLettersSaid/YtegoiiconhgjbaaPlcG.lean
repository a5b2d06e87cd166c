/- Contracts of spec's draws of calendars, dates, days and years. -/
import Derived.Test.YtegoiiconhgjbaaDraw5
import Derived.Test.YtegoiiconhgjbaaPlcA
import Derived.Deep.RegionWith
namespace Go.Proofs.Ytegoiiconhgjbaa.Plc
open Go.RowKit

/-- What a call leaves that draws a calendar. -/
def DrewCal (A : Option Addr) (len cap : Nat) (zs : List Int) (W w : World) (g : Nat) (e : Ending) (w' : World) : Prop :=
  ∃ R : Int, e = .returned (.agg #[.int .i64 R]) ∧ (199999 ≤ R ∧ R ≤ 730500) ∧ Src A len cap zs W w' g ∧ w.grownBy w' (some g)

theorem grown_set {w w' : World} {g : Nat} (h : w.grownBy w' (some g)) {b : Nat} (hb : w.heap.size ≤ b) (i : Nat) (u : Value) : w.grownBy (w'.setCell ⟨b, i, none⟩ u) (some g) := only_setCell h (.inr hb) u
theorem src_set {A : Option Addr} {len cap : Nat} {zs : List Int} {W w : World} {g : Nat} (h : Src A len cap zs W w g) {b : Nat} (hb : b ≠ g) (hW : W.heap.size ≤ b) (i : Nat) (u : Value) : Src A len cap zs W (w.setCell ⟨b, i, none⟩ u) g := h.setCell (p := ⟨b, i, none⟩) hb hW u

end Go.Proofs.Ytegoiiconhgjbaa.Plc
