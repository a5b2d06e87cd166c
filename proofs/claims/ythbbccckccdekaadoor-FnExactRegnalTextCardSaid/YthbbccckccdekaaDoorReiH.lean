/- laws' szReign, toReign. -/
import Derived.Test.YthbbccckccdekaaDoorReiA
namespace Go.Proofs.YthbbccckccdekaaDoor.Rei
open Go.RowKit
open Go.Proofs.YthbbccckccdekaaDoor.Eas (It)

set_option maxHeartbeats 1000000 in
theorem laws_szReign (s : ByteArray) (hs : s.size ≤ maxLen) (f t l r : Int) (l0 : 0 ≤ l) (l1 : l ≤ 1048576) (hr : (if l - s.size < 0 then -1 else l - s.size) = r) (w : World) :
    Calls Tryd.prog 9 #[rV s f t, .int .i64 l] w (It r w) := by
  unfold maxLen at hs
  have S0 := (St.start w).alloc 32 #[.string s, .int .i64 f, .int .i64 t]
  have HR := Lib.hid hr
  by_cases h : l - s.size < 0
  · have e := Lib.hid (hr.symm.trans (if_pos h))
    clear hr HR
    go_enter Tryd.func9, Tryd.ntmps9
    go_wp2_with fail
    go_ret
    exact ⟨ret_int e.out.symm, S0.bel⟩
  · have e := Lib.hid (hr.symm.trans (if_neg h))
    clear hr HR
    go_enter Tryd.func9, Tryd.ntmps9
    go_wp2_with fail
    go_ret
    exact ⟨ret_int e.out.symm, S0.bel⟩

/-- What a call leaves that answers a reign. -/
def Ro (s : ByteArray) (f t : Int) (w : World) (e : Ending) (w' : World) : Prop := e = .returned (rV s f t) ∧ Below w.heap.size w w'
set_option maxHeartbeats 1000000 in
theorem laws_toReign (s : ByteArray) (f t : Int) (w : World) : Calls Tryd.prog 16 #[rV s f t] w (Ro s f t w) := by
  go_enter Tryd.func16, Tryd.ntmps16
  go_wp2_with fail
  refine bodyPost_ret (v := rV s f t) (by simp [results, Tryd.results16, go_sem]) rfl ⟨rfl, ?_⟩
  exact (((Below.refl _ _).alloc (Nat.le_refl _) _).alloc (by simp) _).alloc (by simp; omega) _

end Go.Proofs.YthbbccckccdekaaDoor.Rei
