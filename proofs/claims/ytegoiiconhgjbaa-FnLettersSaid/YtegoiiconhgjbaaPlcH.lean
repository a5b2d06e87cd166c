/- Contracts of spec's draw of a calendar and a date. -/
import Derived.Test.YtegoiiconhgjbaaPlcG
import Derived.Deep.RegionHeld3
import Derived.Deep.RegionWith
namespace Go.Proofs.Ytegoiiconhgjbaa.Plc
open Go.RowKit

/-- What a call leaves that draws a calendar and a date. -/
def DrewCD (A : Option Addr) (len cap : Nat) (zs : List Int) (W w : World) (g : Nat) (e : Ending) (w' : World) : Prop :=
  ∃ R y m d : Int, e = .returned (.tuple #[.agg #[.int .i64 R], .agg #[.int .i64 y, .int .i64 m, .int .i64 d]]) ∧ (199999 ≤ R ∧ R ≤ 730500) ∧ Src A len cap zs W w' g ∧ w.grownBy w' (some g)

theorem only_drew {a w : World} {row : Option Nat} (h : a.grownBy w row) : a.grownBy w.drew row := only_drewN h 1
theorem src_drew {A : Option Addr} {len cap : Nat} {zs : List Int} {W w : World} {g : Nat} (h : Src A len cap zs W w g) : Src A len cap zs W w.drew g := h.below ((Below.refl _ _).drew)

theorem low (f : Bool) : Cal.ys f 1 ≤ 2 := by rw [Cal.ys_1]; cases f <;> simp

end Go.Proofs.Ytegoiiconhgjbaa.Plc
