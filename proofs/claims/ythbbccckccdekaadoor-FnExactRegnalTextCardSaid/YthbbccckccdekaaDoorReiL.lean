/- laws' marks of reigns: markText, markReignS. -/
import Derived.Test.YthbbccckccdekaaDoorReiK
import Derived.Laws.IdiomStrings
import Derived.Laws.BytesArg
namespace Go.Proofs.YthbbccckccdekaaDoor.Rei
open Go.RowKit
open Go.Proofs.YthbbccckccdekaaDoor.Eas (It)

theorem convd (n : Int) : ∀ (wx : World) (g : Nat), wx.cell? ⟨g, 0, none⟩ = some (.int .u8 n) →
    (convert 50 9 (.slice (some ⟨g, 0, none⟩) 1 1)).run Tryd.prog wx = .ok (.string (strOfNums [n])) wx := by
  intro wx g hc
  exact run_convert_bytes_arg wx 50 5 Tryd.underlying50 Tryd.underlying5 g 0 1 1 [n] rfl (by
    intro i hi
    obtain rfl : i = 0 := by omega
    simpa using hc) 9 Tryd.underlying9
theorem size_nums1 (n : Int) : (strOfNums [n]).size = 1 := by simp [strOfNums, ByteArray.size]

theorem chg_below {B U : Nat} {w w1 w2 : World} (h : Sets.Chg B U w w1) (hb : Below w1.heap.size w1 w2) : Sets.Chg B U w w2 :=
  ⟨hb.os.trans h.os, hb.tape.trans h.tape, hb.output.trans h.output, Nat.le_trans h.size hb.size, fun i hi hr => (hb.block i (Nat.lt_of_lt_of_le hi h.size)).trans (h.block i hi hr)⟩

end Go.Proofs.YthbbccckccdekaaDoor.Rei
