/- The contract of spec's day of a feast in a year. -/
import Derived.Test.YtfhcakpmlppbkaaEasB
import Derived.Test.YtfhcakpmlppbkaaFeaM
import Derived.Test.YtfhcakpmlppbkaaSt
import Derived.Deep.RegionHeld3
import Derived.Deep.RegionWith
namespace Go.Proofs.Ytfhcakpmlppbkaa.Fea
open Go.RowKit
open Go.Proofs.Ytfhcakpmlppbkaa.Eas

def moV : Array Value := #[.int .i64 1, .int .i64 1, .int .i64 2, .int .i64 3, .int .i64 6, .int .i64 6, .int .i64 8, .int .i64 8, .int .i64 9, .int .i64 11, .int .i64 11, .int .i64 11, .int .i64 12, .int .i64 12]
def daV : Array Value := #[.int .i64 1, .int .i64 6, .int .i64 2, .int .i64 25, .int .i64 24, .int .i64 29, .int .i64 10, .int .i64 15, .int .i64 29, .int .i64 1, .int .i64 11, .int .i64 30, .int .i64 6, .int .i64 25]
def ofV : Array Value := #[.int .i64 (-46), .int .i64 (-7), .int .i64 0, .int .i64 39, .int .i64 49, .int .i64 56]
theorem on_below {w X w' : World} (h : Below w.heap.size w X) (k : Below X.heap.size X w') : Below w.heap.size w w' := h.trans (k.mono h.size)
theorem _root_.Go.Proofs.Ytfhcakpmlppbkaa.St.tables {g1 g0 : Nat} {t1 t0 : TypeId} {B A : Array Value} {L : List (Nat × TypeId × Array Value)} {w0 w : World} {k : Nat} {a b : Value} (h : St ((g1, t1, B) :: (g0, t0, A) :: L) w0 w) (h0 : A[k]? = some a) (h1 : B[k]? = some b) :
    w.cell? ⟨g0, k, none⟩ = some a ∧ w.cell? ⟨g1, k, none⟩ = some b ∧ St ((g1, t1, B) :: (g0, t0, A) :: L) w0 w := ⟨(h.b1.cell k).trans h0, (h.b0.cell k).trans h1, h⟩
theorem fixed_valid (y m d : Int) (hy : isY y) (m1 : 1 ≤ m) (m2 : m ≤ 12) (d1 : 1 ≤ d) (d2 : d ≤ 28 ∨ (m ≠ 2 ∧ d ≤ 30)) : Cal.valid false y m d := by
  refine ⟨hy.1, hy.2, m1, m2, d1, ?_⟩
  have a := (Cal.mlen_bd false y m).1
  rcases d2 with h | ⟨h, h2⟩
  · omega
  · rw [mlenN _ _ _ h]; split <;> omega

end Go.Proofs.Ytfhcakpmlppbkaa.Fea
