/- laws' szReign, toReign. -/
import Derived.Test.YtfhcakpmlppbkaaReiA
namespace Go.Proofs.Ytfhcakpmlppbkaa.Rei
open Go.RowKit
open Go.Proofs.Ytfhcakpmlppbkaa.Eas (It)

set_option maxHeartbeats 1000000 in
theorem laws_szReign (s : ByteArray) (hs : s.size ≤ maxLen) (f t l r : Int) (l0 : 0 ≤ l) (l1 : l ≤ 1048576) (hr : (if l - s.size < 0 then -1 else l - s.size) = r) (w : World) :
    Calls Try.prog 26 #[rV s f t, .int .i64 l] w (It r w) := by
  unfold maxLen at hs
  have S0 := (St.start w).alloc 42 #[.string s, .int .i64 f, .int .i64 t]
  have HR := Lib.hid hr
  by_cases h : l - s.size < 0
  · have e := Lib.hid (hr.symm.trans (if_pos h))
    clear hr HR
    go_enter Try.func26, Try.ntmps26
    go_wp2_with fail
    go_ret
    exact ⟨ret_int e.out.symm, S0.bel⟩
  · have e := Lib.hid (hr.symm.trans (if_neg h))
    clear hr HR
    go_enter Try.func26, Try.ntmps26
    go_wp2_with fail
    go_ret
    exact ⟨ret_int e.out.symm, S0.bel⟩

/-- What a call leaves that answers a reign. -/
def Ro (s : ByteArray) (f t : Int) (w : World) (e : Ending) (w' : World) : Prop := e = .returned (rV s f t) ∧ Below w.heap.size w w'
set_option maxHeartbeats 1000000 in
theorem laws_toReign (s : ByteArray) (f t : Int) (w : World) : Calls Try.prog 27 #[rV s f t] w (Ro s f t w) := by
  go_enter Try.func27, Try.ntmps27
  go_wp2_with fail
  refine bodyPost_ret (v := rV s f t) (by simp [results, Try.results27, go_sem]) rfl ⟨rfl, ?_⟩
  exact (((Below.refl _ _).alloc (Nat.le_refl _) _).alloc (by simp) _).alloc (by simp; omega) _

end Go.Proofs.Ytfhcakpmlppbkaa.Rei
