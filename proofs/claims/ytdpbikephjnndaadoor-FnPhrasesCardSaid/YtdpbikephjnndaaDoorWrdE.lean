/- Contracts of spec's nearest word, of a phrase's text and of the phrase with a text. -/
import Derived.Test.YtdpbikephjnndaaDoorWrdD
namespace Go.Proofs.YtdpbikephjnndaaDoor.Wrd
open Go.RowKit

/-- The search of the nearest word: what is the best one among the first k words. -/
def nr (l : List UInt8) (ps : List (List UInt8)) (m : Int) : Nat → Int × Int
  | 0 => (-1, m + 1)
  | k + 1 => if (dist (norm l) (norm (ps.getD k [])) : Int) < (nr l ps m k).2 then ((k : Int), (dist (norm l) (norm (ps.getD k [])) : Int)) else nr l ps m k
def nOk (l : List UInt8) (ps : List (List UInt8)) (m : Int) : Prop := (isW l ∧ phOk ps) ∧ 0 ≤ m ∧ m ≤ 20
instance (l : List UInt8) (ps : List (List UInt8)) (m : Int) : Decidable (nOk l ps m) := by unfold nOk; exact inferInstance
def nFd (l : List UInt8) (ps : List (List UInt8)) (m : Int) : Prop := nOk l ps m ∧ 0 ≤ (nr l ps m ps.length).1
instance (l : List UInt8) (ps : List (List UInt8)) (m : Int) : Decidable (nFd l ps m) := by unfold nFd; exact inferInstance
def nI (l : List UInt8) (ps : List (List UInt8)) (m : Int) : Int := if nFd l ps m then (nr l ps m ps.length).1 else 0
def nD (l : List UInt8) (ps : List (List UInt8)) (m : Int) : Int := if nFd l ps m then (nr l ps m ps.length).2 else 0
def nE (l : List UInt8) (ps : List (List UInt8)) (m : Int) : Int := if ¬ (isW l ∧ phOk ps) then 1 else if ¬ (0 ≤ m ∧ m ≤ 20) then 2 else if nFd l ps m then 0 else 4
def Thr (x y z : Int) (w : World) (e : Ending) (w' : World) : Prop := e = .returned (.tuple #[.int .i64 x, .int .i64 y, .int .i64 z]) ∧ Below w.heap.size w w'
theorem ret_nnn {x y z x' y' z' : Int} (h : x = x' ∧ y = y' ∧ z = z') : Ending.returned (.tuple #[.int .i64 x, .int .i64 y, .int .i64 z]) = .returned (.tuple #[.int .i64 x', .int .i64 y', .int .i64 z']) := by rw [h.1, h.2.1, h.2.2]
theorem nr_bd (l : List UInt8) (ps : List (List UInt8)) {m : Int} (h : 0 ≤ m) : ∀ k, -1 ≤ (nr l ps m k).1 ∧ (nr l ps m k).1 < k ∧ 0 ≤ (nr l ps m k).2 ∧ (nr l ps m k).2 ≤ m + 1
  | 0 => by simp [nr]; omega
  | k + 1 => by
    have := nr_bd l ps h k
    unfold nr
    split
    · simp only; omega
    · omega

def NwL (l : List UInt8) (ps : List (List UInt8)) (m0 : Int) (w0 : World) (m : Nat) (b d i : Value) (wr : World) : Prop :=
  ∃ (k : Nat) (x y : Int), i = .int .i64 k ∧ m = ps.length - k ∧ k ≤ ps.length ∧ b = .int .i64 x ∧ d = .int .i64 y ∧ Hid (nr l ps m0 k = (x, y)) ∧ Below w0.heap.size w0 wr

end Go.Proofs.YtdpbikephjnndaaDoor.Wrd
