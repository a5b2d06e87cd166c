/- MeetSets of both. -/
import Derived.Test.YtfhcakpmlppbkaaGreatDoorMeet
import Derived.Test.YtfhcakpmlppbkaaGreatDoorSetC
namespace Go.Proofs.YtfhcakpmlppbkaaGreatDoor.Sets
open Go.RowKit

/-- A set that is answered, if what came in were sets and it isn't too long; and the code. -/
def resV (ok : Bool) (xs : L) : L := if ok then (if xs.length ≤ 300 then xs else []) else []
def resE (ok : Bool) (xs : L) : Int := if ok then (if xs.length ≤ 300 then 0 else 3) else 1
theorem res_len (b : Bool) (xs : L) : (resV b xs).length ≤ 2000000 := by
  unfold resV; split
  · split
    · omega
    · simp
  · simp
def SetOut (xs : L) (c : Int) (w : World) (e : Ending) (w' : World) : Prop :=
  ∃ A cap, e = .returned (.tuple #[.slice A xs.length cap, .int .i64 c]) ∧ Row w' w.heap.size w'.heap.size A xs.length cap xs ∧ Below w.heap.size w w'

theorem impl_res_short (A : Option Addr) (n c : Nat) (h : n ≤ 300) (w : World) :
    Calls Tryz.prog 49 #[.slice A n c] w fun e w' => e = .returned (.tuple #[.slice A n c, .int .i64 0]) ∧ w = w' := by
  go_enter Tryz.func49, Tryz.ntmps49
  go_wp2_with fail
  go_ret2
  exact ⟨rfl, rfl⟩
theorem impl_res_long (A : Option Addr) (n c : Nat) (h : ¬ n ≤ 300) (w : World) :
    Calls Tryz.prog 49 #[.slice A n c] w fun e w' => e = .returned (.tuple #[.slice none 0 0, .int .i64 3]) ∧ w = w' := by
  have h' : 300 < n := by omega
  clear h
  go_enter Tryz.func49, Tryz.ntmps49
  go_wp2_with fail
  go_ret2
  exact ⟨rfl, rfl⟩

theorem spec_res_short (A : Option Addr) (n c : Nat) (h : n ≤ 300) (w : World) :
    Calls Tryz.prog 52 #[.slice A n c] w fun e w' => e = .returned (.tuple #[.slice A n c, .int .i64 0]) ∧ w = w' := by
  go_enter Tryz.func52, Tryz.ntmps52
  go_wp2_with fail
  go_ret2
  exact ⟨rfl, rfl⟩
theorem spec_res_long (A : Option Addr) (n c : Nat) (h : ¬ n ≤ 300) (w : World) :
    Calls Tryz.prog 52 #[.slice A n c] w fun e w' => e = .returned (.tuple #[.slice none 0 0, .int .i64 3]) ∧ w = w' := by
  have h' : 300 < n := by omega
  clear h
  go_enter Tryz.func52, Tryz.ntmps52
  go_wp2_with fail
  go_ret2
  exact ⟨rfl, rfl⟩

end Go.Proofs.YtfhcakpmlppbkaaGreatDoor.Sets
