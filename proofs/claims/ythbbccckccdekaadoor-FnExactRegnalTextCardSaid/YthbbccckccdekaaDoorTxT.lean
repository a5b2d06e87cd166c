/- Contracts of spec's l02Text and SetText. -/
import Derived.Test.YthbbccckccdekaaDoorTxS
import Derived.Maps.AppendAt
namespace Go.Proofs.YthbbccckccdekaaDoor.Sets
open Go.RowKit

def TextLoop (xs : L) (w : World) (m : Nat) (v i : Value) (wr : World) : Prop :=
  ∃ (k : Nat) (ps : List (List UInt8)), i = .int .i64 k ∧ m = xs.length - k ∧ k ≤ xs.length ∧ ps.length = k ∧ Hid (ps = (xs.take k).map wd) ∧
    wr.ownsRow w.heap.size 9 1 v ps.length (ps.map fun p => Value.string (str p)) ∧ Below w.heap.size w wr

theorem words_step {xs : L} {ps : List (List UInt8)} {k : Nat} {t : List UInt8} (hk : k < xs.length) (h : ps = (xs.take k).map wd) (ht : t = wd xs[k]) : ps ++ [t] = (xs.take (k + 1)).map wd := by
  rw [List.take_succ_eq_append_getElem hk, List.map_append, h, ht]
  rfl

theorem owns_below {w w' : World} {base : Nat} {e : TypeId} {size : Nat} {v : Value} {n : Nat} {xs : List Value} (h : w.ownsRow base e size v n xs) (hb : Below w.heap.size w w') : w'.ownsRow base e size v n xs := by
  refine ⟨h.1, ?_⟩
  rcases h.2 with h0 | ⟨g, cap, cur, hv, hB, hg, rest⟩
  · exact .inl h0
  · exact .inr ⟨g, cap, cur, hv, hB, (hb.block g (Array.getElem?_eq_some_iff.1 hg).1).trans hg, rest⟩

/-- What SetText answers. -/
def txtV (xs : L) : List UInt8 := if setB xs = true then txt xs else []
def txtE (xs : L) : Int := if setB xs = true then 0 else 1
def TxO (l : List UInt8) (c : Int) (w : World) (e : Ending) (w' : World) : Prop := e = .returned (.tuple #[.string (str l), .int .i64 c]) ∧ Below w.heap.size w w'
theorem txo_eq {l l' : List UInt8} {c c' : Int} {w w' : World} {e : Ending} (h : TxO l c w e w') (h1 : l = l') (h2 : c = c') : TxO l' c' w e w' := by subst h1 h2; exact h

theorem setB_t {xs : L} (h : setB xs = true) : xs.length ≤ 300 ∧ ∀ s ∈ xs, ok s := by
  have := of_decide_eq_true h
  exact ⟨this.1, this.2.ok_of⟩

end Go.Proofs.YthbbccckccdekaaDoor.Sets
