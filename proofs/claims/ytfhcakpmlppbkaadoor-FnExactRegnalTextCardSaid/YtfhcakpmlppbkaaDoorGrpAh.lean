/- Texts of a claim in one file: EasB FeaA. -/
import Derived.Test.YtfhcakpmlppbkaaDoorGrpAg
import Derived.Test.YtfhcakpmlppbkaaDoorGrpAb
import Derived.Deep.RegionHeld3
import Derived.Deep.RegionWith
namespace Go.Proofs.YtfhcakpmlppbkaaDoor.Eas
open Go.RowKit

def DateV (y m d : Int) (w : World) (e : Ending) (w' : World) : Prop := e = .returned (.agg #[.int .i64 y, .int .i64 m, .int .i64 d]) ∧ Below w.heap.size w w'
def It (a : Int) (w : World) (e : Ending) (w' : World) : Prop := e = .returned (.int .i64 a) ∧ Below w.heap.size w w'
theorem ret_agg {a b c a' b' c' : Int} (h : a = a') (h1 : b = b') (h2 : c = c') : Ending.returned (.agg #[.int .i64 a, .int .i64 b, .int .i64 c]) = .returned (.agg #[.int .i64 a', .int .i64 b', .int .i64 c']) := by rw [h, h1, h2]
def oldN (y : Int) : Int := if isY y then oE y else 0
def isN (y : Int) : Prop := 1583 ≤ y ∧ y ≤ 2000
instance (y : Int) : Decidable (isN y) := by unfold isN; exact inferInstance
theorem isN.y {y : Int} (h : isN y) : isY y := ⟨by have := h.1; omega, h.2⟩
def newN (y : Int) : Int := if isN y then nE y else 0
def newErr (y : Int) : Int := if isN y then 0 else 2

theorem spec_in_no (n lo hi : Int) (h : ¬ (lo ≤ n ∧ n ≤ hi)) (w : World) : Calls Tryd.prog 42 #[.int .i64 n, .int .i64 lo, .int .i64 hi] w fun e w' => e = .returned (.bool false) ∧ w = w' := by
  have := spec_in n lo hi w
  rwa [inB_false h] at this

theorem spec_in_yes (n lo hi : Int) (h : lo ≤ n ∧ n ≤ hi) (w : World) : Calls Tryd.prog 42 #[.int .i64 n, .int .i64 lo, .int .i64 hi] w fun e w' => e = .returned (.bool true) ∧ w = w' := by
  have := spec_in n lo hi w
  rwa [inB_true h] at this

theorem spec_num (f : Bool) (y m d n : Int) (hv : Cal.valid f y m d) (hn : Cal.num f y m d = n) (w : World) : Calls Tryd.prog 63 #[.agg #[.int .i64 y, .int .i64 m, .int .i64 d], .bool f] w (It n w) := by
  subst hn
  have dm := (Cal.mlen_bd f y m).2
  obtain ⟨y1, y2, m1, m2, d1, d2⟩ := hv
  exact spec_number f y m d y1 (by omega) m1 (by omega) (by omega) (by omega) w

/-- The two products of the new rule, as the walk writes them. -/
theorem new_bd (y : Int) : (0 ≤ 29 / ((19 * (y % 19) + y / 100 - y / 100 / 4 - (8 * (y / 100) + 13) / 25 + 15) % 30 + 1) * ((21 - y % 19) / 11) ∧ 29 / ((19 * (y % 19) + y / 100 - y / 100 / 4 - (8 * (y / 100) + 13) / 25 + 15) % 30 + 1) * ((21 - y % 19) / 11) ≤ 29) ∧
    (0 ≤ (19 * (y % 19) + y / 100 - y / 100 / 4 - (8 * (y / 100) + 13) / 25 + 15) % 30 - (19 * (y % 19) + y / 100 - y / 100 / 4 - (8 * (y / 100) + 13) / 25 + 15) % 30 / 28 * (1 - 29 / ((19 * (y % 19) + y / 100 - y / 100 / 4 - (8 * (y / 100) + 13) / 25 + 15) % 30 + 1) * ((21 - y % 19) / 11)) ∧
      (19 * (y % 19) + y / 100 - y / 100 / 4 - (8 * (y / 100) + 13) / 25 + 15) % 30 - (19 * (y % 19) + y / 100 - y / 100 / 4 - (8 * (y / 100) + 13) / 25 + 15) % 30 / 28 * (1 - 29 / ((19 * (y % 19) + y / 100 - y / 100 / 4 - (8 * (y / 100) + 13) / 25 + 15) % 30 + 1) * ((21 - y % 19) / 11)) ≤ 28) :=
  ⟨nP_bd y, nI_bd y⟩

end Go.Proofs.YtfhcakpmlppbkaaDoor.Eas

namespace Go.Proofs.YtfhcakpmlppbkaaDoor.Fea
open Go.RowKit
open Go.Proofs.YtfhcakpmlppbkaaDoor.Eas

def moV : Array Value := #[.int .i64 1, .int .i64 1, .int .i64 2, .int .i64 3, .int .i64 6, .int .i64 6, .int .i64 8, .int .i64 8, .int .i64 9, .int .i64 11, .int .i64 11, .int .i64 11, .int .i64 12, .int .i64 12]
def daV : Array Value := #[.int .i64 1, .int .i64 6, .int .i64 2, .int .i64 25, .int .i64 24, .int .i64 29, .int .i64 10, .int .i64 15, .int .i64 29, .int .i64 1, .int .i64 11, .int .i64 30, .int .i64 6, .int .i64 25]
def ofV : Array Value := #[.int .i64 (-46), .int .i64 (-7), .int .i64 0, .int .i64 39, .int .i64 49, .int .i64 56]
theorem on_below {w X w' : World} (h : Below w.heap.size w X) (k : Below X.heap.size X w') : Below w.heap.size w w' := h.trans (k.mono h.size)
theorem _root_.Go.Proofs.YtfhcakpmlppbkaaDoor.St.tables {g1 g0 : Nat} {t1 t0 : TypeId} {B A : Array Value} {L : List (Nat × TypeId × Array Value)} {w0 w : World} {k : Nat} {a b : Value} (h : St ((g1, t1, B) :: (g0, t0, A) :: L) w0 w) (h0 : A[k]? = some a) (h1 : B[k]? = some b) :
    w.cell? ⟨g0, k, none⟩ = some a ∧ w.cell? ⟨g1, k, none⟩ = some b ∧ St ((g1, t1, B) :: (g0, t0, A) :: L) w0 w := ⟨(h.b1.cell k).trans h0, (h.b0.cell k).trans h1, h⟩
theorem fixed_valid (y m d : Int) (hy : isY y) (m1 : 1 ≤ m) (m2 : m ≤ 12) (d1 : 1 ≤ d) (d2 : d ≤ 28 ∨ (m ≠ 2 ∧ d ≤ 30)) : Cal.valid false y m d := by
  refine ⟨hy.1, hy.2, m1, m2, d1, ?_⟩
  have a := (Cal.mlen_bd false y m).1
  rcases d2 with h | ⟨h, h2⟩
  · omega
  · rw [mlenN _ _ _ h]; split <;> omega

end Go.Proofs.YtfhcakpmlppbkaaDoor.Fea
