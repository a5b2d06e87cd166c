/- Slices of 64-bit numbers in memory: what reads as a list of numbers, what is a row of the call's own; and the laws' small functions over them. -/
import Derived.Test.YtdpbikephjnndaaDoorSt
import Derived.WalkKit
import Derived.WalkSpells
import Derived.WalkLawsBesides
import Derived.Deep.QuietTactic
import Derived.BigQuiet
import Derived.Deep.LoopGhost
import Derived.Deep.RegionHeld3
import Derived.Deep.RegionWith
import Derived.Lib.Hide
import Derived.StillTactics
import Derived.StillTailTactics
import Derived.IntWalk
import Derived.Laws.MakeOwn
import Derived.OwnWalk
import Derived.Laws.AppendOwn
import Derived.Laws.OwnMore
namespace Go.Proofs.YtdpbikephjnndaaDoor.Ints
open Go.RowKit

abbrev L := List Int
theorem ret_bool {a b : Bool} (h : a = b) : Ending.returned (.bool a) = .returned (.bool b) := by rw [h]

/-- The slice with address A and length n reads as the numbers xs. -/
def Rd (w : World) (A : Option Addr) (n : Nat) (xs : L) : Prop :=
  xs.length = n ∧ (0 < n → ∃ g off, A = some ⟨g, off, none⟩ ∧ g < w.heap.size ∧
    ∀ k (h : k < xs.length), w.cell? ⟨g, off + k, none⟩ = some (.int .i64 xs[k]))

/-- The slice is a row of the call's own, in a block from B on and below U. -/
def Row (w : World) (B U : Nat) (A : Option Addr) (n c : Nat) (xs : L) : Prop :=
  xs.length = n ∧ n ≤ c ∧ U ≤ w.heap.size ∧ (0 < n → ∃ g off cs, A = some ⟨g, off, none⟩ ∧ B ≤ g ∧ g < U ∧ Blk w g 2 cs ∧
    ∀ k (h : k < xs.length), cs[off + k]? = some (.int .i64 xs[k]))

/-- Only blocks from B on and below U have changed. -/
structure Chg (B U : Nat) (w w' : World) : Prop where
  os : w'.os = w.os
  tape : w'.tape = w.tape
  output : w'.output = w.output
  size : w.heap.size ≤ w'.heap.size
  block : ∀ i, i < w.heap.size → (i < B ∨ U ≤ i) → w'.heap[i]? = w.heap[i]?

section
variable {w w' : World} {A : Option Addr} {n c B U : Nat} {xs : L}
theorem Rd.at_ (h : Rd w A n xs) {k : Nat} (hk : k < n) : ∃ g off, ∃ hl : k < xs.length, A = some ⟨g, off, none⟩ ∧ g < w.heap.size ∧
    w.cell? ⟨g, off + k, none⟩ = some (.int .i64 xs[k]) := by
  obtain ⟨hl, hc⟩ := h
  obtain ⟨g, off, rfl, hg, hcell⟩ := hc (by omega)
  exact ⟨g, off, by omega, rfl, hg, hcell k (by omega)⟩
theorem Rd.below (h : Rd w A n xs) (hb : Below w.heap.size w w') : Rd w' A n xs :=
  ⟨h.1, fun hn => by
    obtain ⟨g, off, e, hg, hcell⟩ := h.2 hn
    exact ⟨g, off, e, Nat.lt_of_lt_of_le hg hb.size, fun k hk => (hb.cell (p := ⟨g, _, none⟩) hg).trans (hcell k hk)⟩⟩
theorem Rd.nil : Rd w A 0 [] := ⟨rfl, fun h => absurd h (Nat.lt_irrefl _)⟩
theorem Row.rd (h : Row w B U A n c xs) : Rd w A n xs :=
  ⟨h.1, fun hn => by
    obtain ⟨g, off, cs, e, _, hg, hb, hcell⟩ := h.2.2.2 hn
    refine ⟨g, off, e, Nat.lt_of_lt_of_le hg h.2.2.1, fun k hk => ?_⟩
    rw [hb.cell]
    exact hcell k hk⟩
theorem Row.below (h : Row w B U A n c xs) (hb : Below w.heap.size w w') : Row w' B U A n c xs :=
  ⟨h.1, h.2.1, Nat.le_trans h.2.2.1 hb.size, fun hn => by
    obtain ⟨g, off, cs, e, h1, hg, hk, hcell⟩ := h.2.2.2 hn
    exact ⟨g, off, cs, e, h1, hg, hk.below hb hk.lt, hcell⟩⟩
theorem Row.chg {B' U' : Nat} (h : Row w B U A n c xs) (hc : Chg B' U' w w') (hd : U ≤ B' ∨ U' ≤ B) : Row w' B U A n c xs :=
  ⟨h.1, h.2.1, Nat.le_trans h.2.2.1 hc.size, fun hn => by
    obtain ⟨g, off, cs, e, h1, hg, hk, hcell⟩ := h.2.2.2 hn
    exact ⟨g, off, cs, e, h1, hg, (hc.block g hk.lt (by omega)).trans hk, hcell⟩⟩
theorem Row.mono {B' U' : Nat} (h : Row w B U A n c xs) (hB : B' ≤ B) (hU : U ≤ U') (hs : U' ≤ w.heap.size) : Row w B' U' A n c xs :=
  ⟨h.1, h.2.1, hs, fun hn => by
    obtain ⟨g, off, cs, e, h1, hg, hk, hcell⟩ := h.2.2.2 hn
    exact ⟨g, off, cs, e, by omega, by omega, hk, hcell⟩⟩
theorem Row.nil {c : Nat} (h : U ≤ w.heap.size) : Row w B U A 0 c [] := ⟨rfl, Nat.zero_le _, h, fun h => absurd h (Nat.lt_irrefl _)⟩
theorem Chg.refl (w : World) : Chg B U w w := ⟨rfl, rfl, rfl, Nat.le_refl _, fun _ _ _ => rfl⟩
theorem Chg.setCell (h : Chg B U w w') {p : Addr} (h1 : B ≤ p.block) (h2 : p.block < U) (u : Value) : Chg B U w (w'.setCell p u) :=
  ⟨h.os, h.tape, h.output, by simpa [World.setCell] using h.size, fun i hi hr => (Below.heap_setCell w' p u i (by omega)).trans (h.block i hi hr)⟩
theorem Chg.below {B0 : Nat} (h : Chg B U w w') (hB : B0 ≤ B) (hs : B0 ≤ w.heap.size) : Below B0 w w' :=
  ⟨h.os, h.tape, h.output, h.size, fun k hk => h.block k (by omega) (.inl (by omega))⟩
end

/-- A row of n numbers, of which those before k are marked. -/
def MarkRow (w : World) (B U : Nat) (A : Option Addr) (n k : Nat) (k0 : Int) : Prop :=
  0 < n → ∃ g off cs, A = some ⟨g, off, none⟩ ∧ B ≤ g ∧ g < U ∧ Blk w g 2 cs ∧
    ∀ j, j < n → ∃ u, cs[off + j]? = some u ∧ (j < k → u = .int .i64 (k0 + j))

/-- The numbers that marking from k on leaves. -/
def marks (k : Int) : Nat → L
  | 0 => []
  | n + 1 => marks k n ++ [k + n]
theorem marks_length (k : Int) (n : Nat) : (marks k n).length = n := by
  induction n with
  | zero => rfl
  | succ n ih => simp [marks, ih]
theorem marks_get (k : Int) (n j : Nat) (h : j < (marks k n).length) : (marks k n)[j] = k + j := by
  induction n with
  | zero => simp [marks] at h
  | succ n ih =>
    rw [marks_length] at h
    simp only [marks, List.getElem_append, marks_length]
    split
    · exact ih _
    · have : j = n := by omega
      subst this
      simp

end Go.Proofs.YtdpbikephjnndaaDoor.Ints
