/- Slices of spans in memory: what reads as a list of spans, what is a row of the call's own; and the small functions over spans. -/
import Derived.Test.YtfhcakpmlppbkaaGreatDoorSt
import Derived.Test.YtfhcakpmlppbkaaGreatDoorSets
import Derived.WalkKit
import Derived.WalkSpells
import Derived.WalkLawsBesides
import Derived.Deep.QuietTactic
import Derived.BigQuiet
import Derived.Deep.LoopGhost
import Derived.Deep.RegionHeld3
import Derived.Deep.RegionWith
import Derived.Lib.Hide
import Derived.StillTactics
import Derived.StillTailTactics
import Derived.IntWalk
import Derived.Laws.MakeOwn
import Derived.OwnWalk
namespace Go.Proofs.YtfhcakpmlppbkaaGreatDoor.Sets
open Go.RowKit

/-- The slice with address A and length n reads as the spans xs. -/
def Rd (w : World) (A : Option Addr) (n : Nat) (xs : L) : Prop :=
  xs.length = n ∧ (0 < n → ∃ g off, A = some ⟨g, off, none⟩ ∧ g < w.heap.size ∧
    ∀ k (h : k < xs.length), w.cell? ⟨g, off + k * 2, none⟩ = some (.int .i64 xs[k].1) ∧ w.cell? ⟨g, off + k * 2 + 1, none⟩ = some (.int .i64 xs[k].2))

/-- The slice is a row of the call's own, in a block from B on and below U. -/
def Row (w : World) (B U : Nat) (A : Option Addr) (n c : Nat) (xs : L) : Prop :=
  xs.length = n ∧ n ≤ c ∧ U ≤ w.heap.size ∧ (0 < n → ∃ g off cs, A = some ⟨g, off, none⟩ ∧ B ≤ g ∧ g < U ∧ Blk w g 36 cs ∧
    ∀ k (h : k < xs.length), cs[off + k * 2]? = some (.int .i64 xs[k].1) ∧ cs[off + k * 2 + 1]? = some (.int .i64 xs[k].2))

/-- Only blocks from B on and below U have changed. -/
structure Chg (B U : Nat) (w w' : World) : Prop where
  os : w'.os = w.os
  tape : w'.tape = w.tape
  output : w'.output = w.output
  size : w.heap.size ≤ w'.heap.size
  block : ∀ i, i < w.heap.size → (i < B ∨ U ≤ i) → w'.heap[i]? = w.heap[i]?

section
variable {w w' : World} {A : Option Addr} {n c B U : Nat} {xs : L}
theorem Rd.at_ (h : Rd w A n xs) {k : Nat} (hk : k < n) : ∃ g off, ∃ hl : k < xs.length, A = some ⟨g, off, none⟩ ∧ g < w.heap.size ∧
    w.cell? ⟨g, off + k * 2, none⟩ = some (.int .i64 xs[k].1) ∧ w.cell? ⟨g, off + k * 2 + 1, none⟩ = some (.int .i64 xs[k].2) := by
  obtain ⟨hl, hc⟩ := h
  obtain ⟨g, off, rfl, hg, hcell⟩ := hc (by omega)
  exact ⟨g, off, by omega, rfl, hg, hcell k (by omega)⟩
theorem Rd.below (h : Rd w A n xs) (hb : Below w.heap.size w w') : Rd w' A n xs :=
  ⟨h.1, fun hn => by
    obtain ⟨g, off, e, hg, hcell⟩ := h.2 hn
    refine ⟨g, off, e, Nat.lt_of_lt_of_le hg hb.size, fun k hk => ?_⟩
    obtain ⟨c0, c1⟩ := hcell k hk
    exact ⟨(hb.cell (p := ⟨g, _, none⟩) hg).trans c0, (hb.cell (p := ⟨g, _, none⟩) hg).trans c1⟩⟩
theorem Rd.nil : Rd w A 0 [] := ⟨rfl, fun h => absurd h (Nat.lt_irrefl _)⟩
theorem Row.rd (h : Row w B U A n c xs) : Rd w A n xs :=
  ⟨h.1, fun hn => by
    obtain ⟨g, off, cs, e, _, hg, hb, hcell⟩ := h.2.2.2 hn
    refine ⟨g, off, e, Nat.lt_of_lt_of_le hg h.2.2.1, fun k hk => ?_⟩
    rw [hb.cell, hb.cell]
    exact hcell k hk⟩
theorem Row.below (h : Row w B U A n c xs) (hb : Below w.heap.size w w') : Row w' B U A n c xs :=
  ⟨h.1, h.2.1, Nat.le_trans h.2.2.1 hb.size, fun hn => by
    obtain ⟨g, off, cs, e, h1, hg, hk, hcell⟩ := h.2.2.2 hn
    exact ⟨g, off, cs, e, h1, hg, hk.below hb hk.lt, hcell⟩⟩
theorem Row.chg {B' U' : Nat} (h : Row w B U A n c xs) (hc : Chg B' U' w w') (hd : U ≤ B' ∨ U' ≤ B) : Row w' B U A n c xs :=
  ⟨h.1, h.2.1, Nat.le_trans h.2.2.1 hc.size, fun hn => by
    obtain ⟨g, off, cs, e, h1, hg, hk, hcell⟩ := h.2.2.2 hn
    exact ⟨g, off, cs, e, h1, hg, (hc.block g hk.lt (by omega)).trans hk, hcell⟩⟩
theorem Row.mono {B' U' : Nat} (h : Row w B U A n c xs) (hB : B' ≤ B) (hU : U ≤ U') (hs : U' ≤ w.heap.size) : Row w B' U' A n c xs :=
  ⟨h.1, h.2.1, hs, fun hn => by
    obtain ⟨g, off, cs, e, h1, hg, hk, hcell⟩ := h.2.2.2 hn
    exact ⟨g, off, cs, e, by omega, by omega, hk, hcell⟩⟩
theorem Row.nil {c : Nat} (h : U ≤ w.heap.size) : Row w B U A 0 c [] := ⟨rfl, Nat.zero_le _, h, fun h => absurd h (Nat.lt_irrefl _)⟩
theorem Chg.refl (w : World) : Chg B U w w := ⟨rfl, rfl, rfl, Nat.le_refl _, fun _ _ _ => rfl⟩
theorem Chg.setCell (h : Chg B U w w') {p : Addr} (h1 : B ≤ p.block) (h2 : p.block < U) (u : Value) : Chg B U w (w'.setCell p u) :=
  ⟨h.os, h.tape, h.output, by simpa [World.setCell] using h.size, fun i hi hr => (Below.heap_setCell w' p u i (by omega)).trans (h.block i hi hr)⟩
theorem Chg.below {B0 : Nat} (h : Chg B U w w') (hB : B0 ≤ B) (hs : B0 ≤ w.heap.size) : Below B0 w w' :=
  ⟨h.os, h.tape, h.output, h.size, fun k hk => h.block k (by omega) (.inl (by omega))⟩
end

/-- A row of n spans, of which those before k are marked. -/
def MarkRow (w : World) (B U : Nat) (A : Option Addr) (n k : Nat) (k0 : Int) : Prop :=
  0 < n → ∃ g off cs, A = some ⟨g, off, none⟩ ∧ B ≤ g ∧ g < U ∧ Blk w g 36 cs ∧
    ∀ j, j < n → ∃ u, cs[off + j * 2]? = some u ∧ ∃ u', cs[off + j * 2 + 1]? = some u' ∧ (j < k → u = .int .i64 (k0 + 2 * j) ∧ u' = .int .i64 (k0 + 2 * j + 1))

/-- The spans that marking from k on leaves. -/
def marks (k : Int) : Nat → L
  | 0 => []
  | n + 1 => marks k n ++ [(k + 2 * n, k + 2 * n + 1)]
theorem marks_length (k : Int) (n : Nat) : (marks k n).length = n := by
  induction n with
  | zero => rfl
  | succ n ih => simp [marks, ih]
theorem marks_get (k : Int) (n j : Nat) (h : j < (marks k n).length) : (marks k n)[j] = (k + 2 * j, k + 2 * j + 1) := by
  induction n with
  | zero => simp [marks] at h
  | succ n ih =>
    rw [marks_length] at h
    simp only [marks, List.getElem_append, marks_length]
    split
    · exact ih _
    · have : j = n := by omega
      subst this
      simp

theorem info_span : (Tryz.prog.info? 36).map (fun i => (i.zero, i.size, i.bytes)) = some (some (.agg #[.int .i64 0, .int .i64 0]), 2, 16) := by kernel_rfl
theorem run_make_spans (n : Nat) (hn : n ≤ 2000000) (w : World) :
    (Instr.makeSlice 24 (.int .i64 (n : Int)) (.int .i64 (n : Int))).run Tryz.prog w = .ok (.slice (some ⟨w.heap.size, 0, none⟩) n n) (w.alloc (.cells (madeCells #[.int .i64 0, .int .i64 0] (n * 2)) 36)) := by
  obtain ⟨i, hi, hz, h1, h2⟩ := info_parts info_span
  have h := run_make (P := Tryz.prog) w 24 36 i _ Tryz.underlying24 hi hz .i64 .i64 n n (by omega) (by omega) (by rw [h2]; omega) (by omega)
  rw [h1] at h
  simpa [Value.cells] using h
/-- A row that the call fills: its first k spans are those of xs. -/
def Fill (w : World) (g k n : Nat) (xs : L) : Prop :=
  ∃ cs : Array Value, cs.size = n * 2 ∧ Blk w g 36 cs ∧ ∀ j (h : j < xs.length), j < k → cs[j * 2]? = some (.int .i64 xs[j].1) ∧ cs[j * 2 + 1]? = some (.int .i64 xs[j].2)
theorem Fill.row {w : World} {B g n c : Nat} {xs : L} (h : Fill w g xs.length n xs) (hn : xs.length ≤ c) (hB : B ≤ g) : Row w B w.heap.size (some ⟨g, 0, none⟩) xs.length c xs :=
  ⟨rfl, hn, Nat.le_refl _, fun _ => by
    obtain ⟨cs, hs, hb, hc⟩ := h
    refine ⟨g, 0, cs, rfl, hB, hb.lt, hb, fun k hk => ?_⟩
    simpa using hc k hk hk⟩
theorem Fill.step {w : World} {g k n : Nat} {xs : L} (h : Fill w g k n xs) (hk : k < xs.length) (hn : k < n) :
    Fill ((w.setCell ⟨g, k * 2, none⟩ (.int .i64 xs[k].1)).setCell ⟨g, k * 2 + 1, none⟩ (.int .i64 xs[k].2)) g (k + 1) n xs := by
  obtain ⟨cs, hs, hb, hc⟩ := h
  refine ⟨_, ?_, (hb.set_ (k * 2) _).set_ (k * 2 + 1) _, fun j hj hjk => ?_⟩
  · simpa using hs
  · by_cases e : j = k
    · subst e
      refine ⟨?_, ?_⟩
      · rw [Array.getElem?_setIfInBounds_ne (by omega), Array.getElem?_setIfInBounds_self_of_lt (by omega)]
      · rw [Array.getElem?_setIfInBounds_self_of_lt (by simp; omega)]
    · rw [Array.getElem?_setIfInBounds_ne (by omega), Array.getElem?_setIfInBounds_ne (by omega), Array.getElem?_setIfInBounds_ne (by omega), Array.getElem?_setIfInBounds_ne (by omega)]
      exact hc j hj (by omega)
theorem Fill.cells {w : World} {g k n : Nat} {xs : L} (h : Fill w g k n xs) {j : Nat} (hj : j < n) :
    (∃ u, w.cell? ⟨g, j * 2, none⟩ = some u) ∧ (∃ u, w.cell? ⟨g, j * 2 + 1, none⟩ = some u) ∧ w.frozen? ⟨g, j * 2, none⟩ = false ∧ w.frozen? ⟨g, j * 2 + 1, none⟩ = false := by
  obtain ⟨cs, hs, hb, hc⟩ := h
  exact ⟨⟨_, (hb.cell _).trans (Array.getElem?_eq_getElem (by omega))⟩, ⟨_, (hb.cell _).trans (Array.getElem?_eq_getElem (by omega))⟩, hb.frozen _, hb.frozen _⟩
theorem Fill.below {w w' : World} {g k n : Nat} {xs : L} (h : Fill w g k n xs) (hb : Below w.heap.size w w') : Fill w' g k n xs := by
  obtain ⟨cs, hs, hk, hc⟩ := h
  exact ⟨cs, hs, hk.below hb hk.lt, hc⟩

end Go.Proofs.YtfhcakpmlppbkaaGreatDoor.Sets
