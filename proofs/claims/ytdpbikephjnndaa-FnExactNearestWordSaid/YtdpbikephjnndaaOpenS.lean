/- A list of texts that comes in, opened. -/
import Derived.Test.YtdpbikephjnndaaLawS
import Derived.SliceStrings
namespace Go.Proofs.Ytdpbikephjnndaa.Wrd
open Go.ChangeShapes Go.WideShapes Go.RowKit

theorem cells_strT : Try.prog.cellsOf 9 = 1 := by kernel_rfl
theorem add_offS (g off k : Nat) : (⟨g, off, none⟩ : Addr).add k = ⟨g, off + k, none⟩ := by unfold Addr.add; split <;> simp_all
theorem str_data (s : ByteArray) : str s.data.toList = s := by simp [str]

theorem open_texts {H : Type} {enc : TypeId × Value → H} {W : World} {base : Nat} {spare : Nat → Bool} {held : Bool} {fuel : Nat} {A : Option Addr} {len cap : Nat} {x : DataW H × List MemPlace}
    (h : DataW.trod enc Try.prog W base spare held fuel 33 [.slice A len cap] = some x) : ∃ ps : List (List UInt8), RdS W A ps ∧ LsOk ps len := by
  rcases open_strings Try.underlying33 Try.underlying9 cells_strT h with ⟨hcs, _⟩ | ⟨a, l, c, ss, hcs, _, hl, hm, hss, _, hcell, hsz⟩
  · injection hcs with h1
    injection h1 with h1 h2 h3
    subst h1 h2
    exact ⟨[], fun k hk => absurd hk (Nat.not_lt_zero k), rfl, Nat.zero_le _, by simp⟩
  · injection hcs with h1
    injection h1 with h1 h2 h3
    subst h1 h2 h3
    have hln : len ≤ ss.length := by rw [hss]; split <;> omega
    refine ⟨(ss.take len).map fun s => s.data.toList, fun k hk => ?_, by rw [List.length_map, List.length_take]; omega, by omega, fun p hp => ?_⟩
    · simp only [List.length_map, List.length_take] at hk
      have hk2 : k < ss.length := by omega
      have c0 := hcell k hk2
      rw [List.getD, List.getElem?_eq_getElem hk2, Option.getD_some] at c0
      obtain ⟨g, off, spot⟩ := a
      have hspot : spot = none := by
        have := World.cell?_spot (hcell 0 (by omega))
        simpa [Addr.add] using this
      subst hspot
      refine ⟨g, off, rfl, ?_, ?_⟩
      · have := World.block_lt_of_cell? _ _ c0
        rw [add_offS] at this
        exact this
      · rw [add_offS] at c0
        simp only [List.getElem_map, List.getElem_take, str_data]
        exact c0
    · obtain ⟨s, hs, rfl⟩ := List.mem_map.1 hp
      have := hsz s (List.mem_of_mem_take hs)
      rw [ByteArray.size, ← Array.length_toList] at this
      exact this

end Go.Proofs.Ytdpbikephjnndaa.Wrd
