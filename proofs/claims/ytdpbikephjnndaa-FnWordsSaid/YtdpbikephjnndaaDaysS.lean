/- Contracts of spec's functions of chapter 1 that turn dates into days and days into dates. -/
import Derived.Test.YtdpbikephjnndaaDays
import Derived.Test.YtdpbikephjnndaaBlk
import Derived.Deep.LoopGhost
import Derived.Deep.RegionWith
namespace Go.Proofs.Ytdpbikephjnndaa
open Go.RowKit

def inB (n lo hi : Int) : Bool := decide (lo ≤ n ∧ n ≤ hi)
theorem inB_true {n lo hi : Int} (h : lo ≤ n ∧ n ≤ hi) : inB n lo hi = true := by simp [inB, h]
theorem inB_false {n lo hi : Int} (h : ¬ (lo ≤ n ∧ n ≤ hi)) : inB n lo hi = false := by simp only [inB, h, decide_false]

set_option maxHeartbeats 400000 in
theorem spec_in (n lo hi : Int) (w : World) :
    Calls Try.prog 44 #[.int .i64 n, .int .i64 lo, .int .i64 hi] w fun e w' => e = .returned (.bool (inB n lo hi)) ∧ w = w' := by
  by_cases h1 : lo ≤ n
  · have hv := Lib.hid (show decide (n ≤ hi) = inB n lo hi by simp [inB, h1])
    go_enter Try.func44, Try.ntmps44
    go_wp2
    go_ret
    exact ⟨ret_bool hv.out, rfl⟩
  · have hv := Lib.hid (inB_false (n := n) (lo := lo) (hi := hi) (fun h => h1 h.1))
    have hd : decide (lo ≤ n) = false := by simpa using h1
    clear h1
    go_enter Try.func44, Try.ntmps44
    go_wp2
    go_ret
    exact ⟨ret_bool hv.out.symm, rfl⟩

theorem spec_in_as (n lo hi : Int) (b : Bool) (h : inB n lo hi = b) (w : World) (k : Nat) :
    Calls Try.prog 44 #[.int .i64 n, .int .i64 lo, .int .i64 hi] (w.drewN k) fun e w'' => e = .returned (.bool b) ∧ ∃ m, w'' = w.drewN m :=
  Calls.quiet_of_same ((spec_in n lo hi _).mono fun _ _ ⟨a, c⟩ => ⟨by rw [a, h], c.symm⟩)

end Go.Proofs.Ytdpbikephjnndaa
