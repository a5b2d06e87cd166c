/- Contracts of likeSpans9 and big, for the laws over sets. -/
import Derived.Test.YtfhcakpmlppbkaaGreatDoorDraw3
import Derived.Test.YtfhcakpmlppbkaaGreatDoorMeetS
namespace Go.Proofs.YtfhcakpmlppbkaaGreatDoor.Sets
open Go.RowKit

set_option maxHeartbeats 400000 in
set_option maxRecDepth 10000 in
theorem laws_big (A : Option Addr) (len cap : Nat) (hm : len ≤ maxLen) (w : World) :
    Calls Tryz.prog 5 #[.slice A len cap] w fun e w' => e = .returned (.bool (decide (4096 < len))) ∧ w = w' := by
  unfold maxLen at hm
  go_enter Tryz.func5, Tryz.ntmps5
  go_wp2_with fail
  go_ret
  exact ⟨ret_bool (by simp; try omega), rfl⟩

set_option maxHeartbeats 400000 in
set_option maxRecDepth 10000 in
theorem laws_like (A A' : Option Addr) (n c c' : Nat) (xs : L) (hn : n ≤ 2000000) (w : World) (h : Rd w A n xs) (h' : Rd w A' n xs) :
    Calls Tryz.prog 15 #[.slice A n c, .slice A' n c'] w fun e w' => e = .returned (.bool true) ∧ Below w.heap.size w w' := by
  go_enter Tryz.func15, Tryz.ntmps15
  go_wp2_with fail
  go_loopg [5] n (fun m i wr => ∃ k : Nat, k ≤ n ∧ m = n - k ∧ i = .int .i64 k ∧ Below w.heap.size w wr)
  case atStart => exact ⟨0, by omega, by omega, rfl, Below.refl _ _⟩
  case round =>
    obtain ⟨k, hk, hm, rfl, hb⟩ := hrel
    subst hm
    by_cases hlt : k < n
    · obtain ⟨g, off, hl, rfl, hg, c0, c1⟩ := (h.below hb).at_ hlt
      obtain ⟨g', off', hl', rfl, hg', c0', c1'⟩ := (h'.below hb).at_ hlt
      go_wp2_with fail
      go_quiet (fail)
      go_wp2_with fail
      go_roundg (n - (k + 1))
      case measure => omega
      case rel => exact ⟨k + 1, by omega, by omega, by go_num, below_drewN hb _⟩
    · go_wp2_with fail
      go_ret
      exact ⟨rfl, hb⟩

end Go.Proofs.YtfhcakpmlppbkaaGreatDoor.Sets
