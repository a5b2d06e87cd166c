/- Facts and packs for the walks of FnWords and FnPhrases (over WrdI: impl's contracts). -/
import Derived.Test.YtdpbikephjnndaaDoorWrdI
import Derived.Test.YtdpbikephjnndaaDoorWrdK
import Derived.Test.YtdpbikephjnndaaDoorStrR
namespace Go.Proofs.YtdpbikephjnndaaDoor.Wrd
open Go.RowKit

set_option maxHeartbeats 400000 in
theorem laws_big (A : Option Addr) (len cap : Nat) (hm : len ≤ maxLen) (w : World) :
    Calls Tryd.prog 5 #[.slice A len cap] w fun e w' => e = .returned (.bool (decide (4096 < len))) ∧ w = w' := by
  unfold maxLen at hm
  go_enter Tryd.func5, Tryd.ntmps5
  go_wp2_with fail
  go_ret
  exact ⟨ret_bool (by simp; try omega), rfl⟩

end Go.Proofs.YtdpbikephjnndaaDoor.Wrd
