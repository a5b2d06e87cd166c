/- Contracts of spec's functions of chapter 1 that turn dates into days and days into dates. -/
import Derived.Test.YtdpbikephjnndaaDoorDays
import Derived.Test.YtdpbikephjnndaaDoorBlk
import Derived.Deep.LoopGhost
import Derived.Deep.RegionWith
namespace Go.Proofs.YtdpbikephjnndaaDoor
open Go.RowKit

def inB (n lo hi : Int) : Bool := decide (lo ≤ n ∧ n ≤ hi)
theorem inB_true {n lo hi : Int} (h : lo ≤ n ∧ n ≤ hi) : inB n lo hi = true := by simp [inB, h]
theorem inB_false {n lo hi : Int} (h : ¬ (lo ≤ n ∧ n ≤ hi)) : inB n lo hi = false := by simp only [inB, h, decide_false]

end Go.Proofs.YtdpbikephjnndaaDoor
