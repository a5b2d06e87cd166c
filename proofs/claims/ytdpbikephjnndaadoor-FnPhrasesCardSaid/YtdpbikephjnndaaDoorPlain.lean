/- Contracts of spec's reading of digits and of a date. -/
import Derived.Test.YtdpbikephjnndaaDoorSplit
import Derived.Test.YtdpbikephjnndaaDoorSt
import Derived.StillTactics
import Derived.StillTailTactics
namespace Go.Proofs.YtdpbikephjnndaaDoor
open Go.RowKit

theorem str_toList (l : List UInt8) : (str l).toList = l := by rw [ByteArray.toList_eq]; rfl
theorem take_snoc' (l : List UInt8) (k : Nat) (h : k < l.length) : l.take (k + 1) = l.take k ++ [l[k]] := List.take_succ_eq_append_getElem h

theorem split_len (c : UInt8) : ∀ (l cur : List UInt8), ∀ p ∈ Txt.split c l cur, p.length ≤ l.length + cur.length
  | [], cur, p, h => by simp [Txt.split] at h; subst h; simp
  | x :: r, cur, p, h => by
    unfold Txt.split at h
    split at h
    · rcases List.mem_cons.1 h with rfl | h
      · simp
      · have := split_len c r [] p h; simp at this ⊢; omega
    · have := split_len c r (cur ++ [x]) p h; simp at this ⊢; omega

theorem split_pos (c : UInt8) : ∀ (l cur : List UInt8), 1 ≤ (Txt.split c l cur).length
  | [], cur => by simp [Txt.split]
  | x :: r, cur => by
    unfold Txt.split
    split
    · simp
    · exact split_pos c r (cur ++ [x])

/-- The row of some texts, where there is one. -/
theorem Texts.at_ {ps : List (List UInt8)} {w : World} {e : Ending} {w' : World} (h : Texts ps w e w') (hp : 1 ≤ ps.length) :
    ∃ g cap, e = .returned (.slice (some ⟨g, 0, none⟩) ps.length cap) ∧ w.heap.size ≤ g ∧ g < w'.heap.size ∧ ps.length ≤ maxLen ∧ Below w.heap.size w w' ∧ ∀ j (hj : j < ps.length), w'.cell? ⟨g, j, none⟩ = some (.string (str ps[j])) := by
  obtain ⟨v, rfl, hown, hb⟩ := h
  have hown' := hown
  rcases hown.2 with ⟨_, h0⟩ | ⟨g, cap, cur, rfl, hg, hh, hc, hm, _⟩
  · omega
  · refine ⟨g, cap, rfl, hg, ?_, by omega, hb, fun j hj => ?_⟩
    · rcases Nat.lt_or_ge g w'.heap.size with h | h
      · exact h
      · rw [Array.getElem?_eq_none h] at hh; cases hh
    · rw [hown'.cellAt j (by omega)]
      simp [hj]

end Go.Proofs.YtdpbikephjnndaaDoor
