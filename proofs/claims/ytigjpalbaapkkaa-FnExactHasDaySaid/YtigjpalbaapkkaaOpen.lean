/- A slice of spans that came in, read as a list. -/
import Derived.Test.YtigjpalbaapkkaaRd
import Derived.Deep.SlicePairs
import Derived.ChangeArms
namespace Go.Proofs.Ytigjpalbaapkkaa.Sets
open Go.RowKit Go.Deep Go.ChangeShapes

theorem add_off (g off k : Nat) : (⟨g, off, none⟩ : Addr).add k = ⟨g, off + k, none⟩ := by unfold Addr.add; split <;> simp_all

theorem open_spans {H : Type} {enc : TypeId × Value → H} {W : World} {base : Nat} {spare : Nat → Bool} {held : Bool} {fuel : Nat} {A : Option Addr} {len cap : Nat} {x : DataW H × List MemPlace}
    (h : DataW.trod enc Try.prog W base spare held fuel 72 [.slice A len cap] = some x) : ∃ xs : L, Rd W A len xs ∧ len ≤ maxLen := by
  rcases open_slice_pairs Try.underlying72 Try.underlying109 (by kernel_rfl) rfl rfl (by kernel_rfl) (by kernel_rfl) h with ⟨hcs, _⟩ | ⟨a, l, c, m, n, V0, V1, D0, D1, P0, P1, hcs, _, hl, hm, hmm, _, hx⟩
  · injection hcs with h1
    injection h1 with h1 h2 h3
    subst h1 h2
    exact ⟨[], Rd.nil, Nat.zero_le _⟩
  · injection hcs with h1
    injection h1 with h1 h2 h3
    subst h1 h2 h3
    have hlm : len ≤ m := by rw [hmm]; split <;> omega
    refine ⟨(List.range len).map fun i => (intOf (V0 i), intOf (V1 i)), ⟨by simp, fun hn => ?_⟩, by omega⟩
    obtain ⟨g, off, spot⟩ := a
    obtain ⟨c0, -⟩ := hx 0 (by omega)
    have hspot : spot = none := by simpa [Addr.add] using World.cell?_spot c0
    subst hspot
    refine ⟨g, off, rfl, ?_, fun k hk => ?_⟩
    · have := World.block_lt_of_cell? _ _ c0
      simpa [Addr.add] using this
    · simp only [List.length_map, List.length_range] at hk
      obtain ⟨d0, d1, t0, t1⟩ := hx k (by omega)
      obtain ⟨y0, e0, -, -⟩ := DataW.trod_int Try.underlying2 t0
      obtain ⟨y1, e1, -, -⟩ := DataW.trod_int Try.underlying2 t1
      simp at e0 e1
      rw [e0] at d0
      rw [e1] at d1
      simp only [List.getElem_map, List.getElem_range, e0, e1]
      refine ⟨?_, ?_⟩
      · rw [add_off] at d0; simpa [intOf] using d0
      · rw [add_off] at d1; simpa [intOf, Nat.add_assoc] using d1

end Go.Proofs.Ytigjpalbaapkkaa.Sets
