/- Contract of spec's distance of two words: made by gen_wrdc.py out of XWrdC.base. -/
import Derived.Test.YtdpbikephjnndaaDoorWrdA
import Derived.Test.YtdpbikephjnndaaDoorIntR
import Derived.Test.YtdpbikephjnndaaDoorSplit
import Derived.Deep.AppendLies
import Derived.Deep.RegionHeld3
namespace Go.Proofs.YtdpbikephjnndaaDoor.Wrd
open Go.RowKit

/-- The first m cells of a row of distances. -/
def P (a b : List UInt8) (i m : Nat) : List Int := (List.range m).map fun k => (dist (a.take i) (b.take k) : Int)
theorem P_len (a b : List UInt8) (i m : Nat) : (P a b i m).length = m := by simp [P]
theorem P_snoc (a b : List UInt8) (i m : Nat) : P a b i (m + 1) = P a b i m ++ [(dist (a.take i) (b.take m) : Int)] := by simp [P, List.range_succ]
theorem P_get (a b : List UInt8) (i m k : Nat) (h : k < (P a b i m).length) : (P a b i m)[k] = (dist (a.take i) (b.take k) : Int) := by simp [P]
theorem P_first (a b : List UInt8) (k : Nat) (h : k ≤ b.length) : P a b 0 k ++ [(k : Int)] = P a b 0 (k + 1) := by
  rw [P_snoc, List.take_zero, dist_nil, List.length_take, Nat.min_eq_left h]
theorem P_one (a b : List UInt8) (i : Nat) (h : i ≤ a.length) : P a b i 1 = [(i : Int)] := by
  rw [P_snoc, List.take_zero, dist_nil', List.length_take, Nat.min_eq_left h]
  rfl

end Go.Proofs.YtdpbikephjnndaaDoor.Wrd
