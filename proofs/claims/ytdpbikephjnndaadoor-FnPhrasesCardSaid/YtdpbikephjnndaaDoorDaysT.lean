/- The contract of spec's function that turns days into dates. -/
import Derived.Test.YtdpbikephjnndaaDoorDaysS
namespace Go.Proofs.YtdpbikephjnndaaDoor
open Go.RowKit

theorem num_first (f : Bool) (y m : Int) : Cal.num f y m 1 = Cal.ys f y + Cal.cum f y m := by unfold Cal.num; omega

theorem sdate_of (f : Bool) (n y m : Int) (y1 : 1 ≤ y) (y2 : y ≤ 2000) (m1 : 1 ≤ m) (m2 : m ≤ 12) (hy : y < 2000 → n < Cal.ys f (y + 1)) (hm : m < 12 → n < Cal.ys f y + Cal.cum f y (m + 1)) (hlo : Cal.ys f y + Cal.cum f y m ≤ n) :
    (n < Cal.ys f 2001 → Cal.valid f y m (n - Cal.num f y m 1 + 1)) ∧ (Cal.ys f 2001 ≤ n → ¬ Cal.valid f y m (n - Cal.num f y m 1 + 1)) ∧ Cal.num f y m (n - Cal.num f y m 1 + 1) = n := by
  have cs := Cal.cum_succ f y m m1
  have yss := Cal.ys_succ f y
  have c13 := Cal.cum_13 f y
  rw [num_first]
  refine ⟨fun h => ⟨y1, y2, m1, m2, by omega, ?_⟩, fun h hv => ?_, by unfold Cal.num; omega⟩
  · by_cases hm' : m < 12
    · have := hm hm'; omega
    · have e : m = 12 := by omega
      subst e
      rw [show (12 : Int) + 1 = 13 from rfl] at cs
      by_cases hy' : y < 2000
      · have := hy hy'; omega
      · have e : y = 2000 := by omega
        subst e
        rw [show (2000 : Int) + 1 = 2001 from rfl] at yss
        omega
  · have := (Cal.num_range f hv).2
    unfold Cal.num at this
    omega

end Go.Proofs.YtdpbikephjnndaaDoor
