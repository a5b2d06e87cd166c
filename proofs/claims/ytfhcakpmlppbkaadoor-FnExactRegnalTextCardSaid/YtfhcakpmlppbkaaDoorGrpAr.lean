/- Texts of a claim in one file: ReiL Has. -/
import Derived.Test.YtfhcakpmlppbkaaDoorGrpAq
import Derived.Laws.IdiomStrings
import Derived.Laws.BytesArg
import Derived.Test.YtfhcakpmlppbkaaDoorGrpAj
namespace Go.Proofs.YtfhcakpmlppbkaaDoor.Rei
open Go.RowKit
open Go.Proofs.YtfhcakpmlppbkaaDoor.Eas (It)

theorem convd (n : Int) : ∀ (wx : World) (g : Nat), wx.cell? ⟨g, 0, none⟩ = some (.int .u8 n) →
    (convert 73 9 (.slice (some ⟨g, 0, none⟩) 1 1)).run Tryd.prog wx = .ok (.string (strOfNums [n])) wx := by
  intro wx g hc
  exact run_convert_bytes_arg wx 73 5 Tryd.underlying73 Tryd.underlying5 g 0 1 1 [n] rfl (by
    intro i hi
    obtain rfl : i = 0 := by omega
    simpa using hc) 9 Tryd.underlying9
theorem size_nums1 (n : Int) : (strOfNums [n]).size = 1 := by simp [strOfNums, ByteArray.size]

theorem chg_below {B U : Nat} {w w1 w2 : World} (h : Sets.Chg B U w w1) (hb : Below w1.heap.size w1 w2) : Sets.Chg B U w w2 :=
  ⟨hb.os.trans h.os, hb.tape.trans h.tape, hb.output.trans h.output, Nat.le_trans h.size hb.size, fun i hi hr => (hb.block i (Nat.lt_of_lt_of_le hi h.size)).trans (h.block i hi hr)⟩

end Go.Proofs.YtfhcakpmlppbkaaDoor.Rei

namespace Go.Proofs.YtfhcakpmlppbkaaDoor.Sets
open Go.RowKit

theorem impl_spanHas (f t d : Int) (b : Bool) (hb : decide (f ≤ d ∧ d ≤ t) = b) (w : World) :
    Calls Tryd.prog 48 #[.agg #[.int .i64 f, .int .i64 t], .int .i64 d] w (Bl b w) := by
  have fin : Below w.heap.size w (w.alloc (.cells #[.int .i64 f, .int .i64 t] 40)) := (Below.refl _ _).alloc (Nat.le_refl _) _
  subst hb
  by_cases h0 : f ≤ d
  · by_cases h1 : d ≤ t
    · have r := Lib.hid (show decide (f ≤ d ∧ d ≤ t) = true from decide_eq_true ⟨h0, h1⟩)
      go_enter Tryd.func48, Tryd.ntmps48
      go_wp2
      go_ret
      exact ⟨by first | rfl | (rw [r.out]; rfl), fin⟩
    · have r := Lib.hid (show decide (f ≤ d ∧ d ≤ t) = false from decide_eq_false fun h => h1 h.2)
      have h1' : decide (d ≤ t) = false := by simpa using h1
      go_enter Tryd.func48, Tryd.ntmps48
      go_wp2
      go_ret
      exact ⟨by first | rfl | (rw [r.out]; rfl), fin⟩
  · have r := Lib.hid (show decide (f ≤ d ∧ d ≤ t) = false from decide_eq_false fun h => h0 h.1)
    have h0' : decide (f ≤ d) = false := by simpa using h0
    go_enter Tryd.func48, Tryd.ntmps48
    go_wp2
    go_ret
    exact ⟨by first | rfl | (rw [r.out]; rfl), fin⟩

end Go.Proofs.YtfhcakpmlppbkaaDoor.Sets
