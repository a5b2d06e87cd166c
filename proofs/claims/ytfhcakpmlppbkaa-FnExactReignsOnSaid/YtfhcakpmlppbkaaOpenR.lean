/- A slice of reigns that came in, read as a list. -/
import Derived.Test.YtfhcakpmlppbkaaReiC
import Derived.Deep.SlicePairs
import Derived.ChangeArms
namespace Go.Proofs.Ytfhcakpmlppbkaa.Rei
open Go.RowKit Go.Deep Go.ChangeShapes

theorem cells_reign : Try.prog.cellsOf 42 = 3 := by kernel_rfl
theorem cells_str1 : Try.prog.cellsOf 9 = 1 := by kernel_rfl
theorem cells_int1 : Try.prog.cellsOf 2 = 1 := by kernel_rfl
theorem add_off (g off k : Nat) : (⟨g, off, none⟩ : Addr).add k = ⟨g, off + k, none⟩ := by unfold Addr.add; split <;> simp_all

theorem three_fields {H : Type} {enc : TypeId × Value → H} {P : Program} {W : World} {base : Nat} {spare : Nat → Bool} {held : Bool} {n : Nat} {t : TypeId} {f0 f1 f2 : Field} {a : Addr} {cs : List Value} {y : DataW H × List MemPlace}
    (he : P.underlying t = some (.struct #[f0, f1, f2])) (o0 : f0.offset = 0) (o1 : f1.offset = 1) (o2 : f2.offset = 2) (c0 : P.cellsOf f0.type = 1) (c1 : P.cellsOf f1.type = 1) (c2 : P.cellsOf f2.type = 1)
    (h1 : W.cells? base a 3 = some cs) (h2 : DataW.trod enc P W base spare held n t cs = some y) :
    ∃ (v0 v1 v2 : Value) (k : Nat) (y0 y1 y2 : DataW H × List MemPlace), W.cell? (a.add 0) = some v0 ∧ W.cell? (a.add 1) = some v1 ∧ W.cell? (a.add 2) = some v2 ∧
      DataW.trod enc P W base spare held k f0.type [v0] = some y0 ∧ DataW.trod enc P W base spare held k f1.type [v1] = some y1 ∧ DataW.trod enc P W base spare held k f2.type [v2] = some y2 := by
  obtain ⟨_, hlen, hcell⟩ := World.cells?_some h1
  obtain ⟨xs, k, hk, _, _, hxl, hf⟩ := DataW.trod_struct he h2
  have e0 := hcell 0 (by omega)
  have e1 := hcell 1 (by omega)
  have e2 := hcell 2 (by omega)
  match xs, hxl, cs, hlen with
  | [y0, y1, y2], _, [v0, v1, v2], _ =>
    have g0 := hf 0 f0 rfl
    have g1 := hf 1 f1 rfl
    have g2 := hf 2 f2 rfl
    simp [o0, o1, o2, c0, c1, c2] at g0 g1 g2
    exact ⟨v0, v1, v2, k, y0, y1, y2, by simpa using e0, by simpa using e1, by simpa using e2, g0, g1, g2⟩
/-- One reign, of its three cells. -/
theorem open_reign {H : Type} {enc : TypeId × Value → H} {W : World} {base : Nat} {spare : Nat → Bool} {held : Bool} {n : Nat} {a : Addr} {cs : List Value} {y : DataW H × List MemPlace}
    (h1 : W.cells? base a 3 = some cs) (h2 : DataW.trod enc Try.prog W base spare held n 42 cs = some y) :
    ∃ r : ByteArray × Int × Int, W.cell? (a.add 0) = some (.string r.1) ∧ W.cell? (a.add 1) = some (.int .i64 r.2.1) ∧ W.cell? (a.add 2) = some (.int .i64 r.2.2) ∧ r.1.size ≤ maxLen := by
  obtain ⟨v0, v1, v2, k, y0, y1, y2, e0, e1, e2, g0, g1, g2⟩ := three_fields Try.underlying42 rfl rfl rfl cells_str1 cells_int1 cells_int1 h1 h2
  obtain ⟨s, q0, -, hs⟩ := DataW.trod_string Try.underlying9 g0
  obtain ⟨f, q1, -, -⟩ := DataW.trod_int Try.underlying2 g1
  obtain ⟨t, q2, -, -⟩ := DataW.trod_int Try.underlying2 g2
  simp at q0 q1 q2
  subst q0 q1 q2
  exact ⟨(s, f, t), e0, e1, e2, hs⟩

theorem open_reigns {H : Type} {enc : TypeId × Value → H} {W : World} {base : Nat} {spare : Nat → Bool} {held : Bool} {fuel : Nat} {A : Option Addr} {len cap : Nat} {x : DataW H × List MemPlace}
    (h : DataW.trod enc Try.prog W base spare held fuel 35 [.slice A len cap] = some x) : ∃ xs : LR, RdR W A len xs ∧ len ≤ maxLen := by
  rcases open_slice Try.underlying35 h with ⟨hcs, _⟩ | ⟨a, l, c, m, n, D, Pl, hcs, _, hl, hm, hmm, _, hx⟩
  · injection hcs with h1
    injection h1 with h1 h2 h3
    subst h1 h2
    exact ⟨[], ⟨rfl, fun _ h => absurd h (by simp), fun h => absurd h (by omega)⟩, Nat.zero_le _⟩
  · injection hcs with h1
    injection h1 with h1 h2 h3
    subst h1 h2 h3
    have hlm : len ≤ m := by rw [hmm]; split <;> omega
    rw [cells_reign] at hx
    have each : ∀ i : Nat, ∃ r : ByteArray × Int × Int, i < len → W.cell? ((a.add (i * 3)).add 0) = some (.string r.1) ∧ W.cell? ((a.add (i * 3)).add 1) = some (.int .i64 r.2.1) ∧ W.cell? ((a.add (i * 3)).add 2) = some (.int .i64 r.2.2) ∧ r.1.size ≤ maxLen := fun i => by
      by_cases hi : i < len
      · obtain ⟨cs', h1, h2⟩ := hx i (by omega)
        obtain ⟨r, hr⟩ := open_reign h1 h2
        exact ⟨r, fun _ => hr⟩
      · exact ⟨(ByteArray.empty, 0, 0), fun h => absurd h hi⟩
    have hR := Classical.axiomOfChoice each
    obtain ⟨R, hR⟩ := hR
    refine ⟨(List.range len).map R, ⟨by simp, fun k hk => ?_, fun hn => ?_⟩, by omega⟩
    · simp only [List.length_map, List.length_range] at hk
      simp only [List.getElem_map, List.getElem_range]
      exact (hR k hk).2.2.2
    · obtain ⟨g, off, spot⟩ := a
      have c0 := (hR 0 (by omega)).1
      have hspot : spot = none := by
        have := World.cell?_spot c0
        simpa [Addr.add] using this
      subst hspot
      refine ⟨g, off, rfl, ?_, fun k hk => ?_⟩
      · have := World.block_lt_of_cell? _ _ c0
        simpa [Addr.add] using this
      · simp only [List.length_map, List.length_range] at hk
        obtain ⟨d0, d1, d2, -⟩ := hR k hk
        simp only [add_off] at d0 d1 d2
        simp only [List.getElem_map, List.getElem_range]
        exact ⟨d0, d1, d2⟩

end Go.Proofs.Ytfhcakpmlppbkaa.Rei
