/- Contracts of spec's reading of digits and of a date. -/
import Derived.Test.YtfhcakpmlppbkaaGreatDoorSplit
import Derived.Test.YtfhcakpmlppbkaaGreatDoorSt
import Derived.StillTactics
import Derived.StillTailTactics
namespace Go.Proofs.YtfhcakpmlppbkaaGreatDoor
open Go.RowKit

theorem str_toList (l : List UInt8) : (str l).toList = l := by rw [ByteArray.toList_eq]; rfl
theorem take_snoc' (l : List UInt8) (k : Nat) (h : k < l.length) : l.take (k + 1) = l.take k ++ [l[k]] := List.take_succ_eq_append_getElem h

set_option maxHeartbeats 1000000 in
theorem spec_plain (l : List UInt8) (hl : l.length ≤ 2000000) (w : World) :
    Calls Tryz.prog 45 #[.string (str l)] w fun e w' => e = .returned (.int .i64 (Txt.plain (l.take 9))) ∧ w = w' := by
  have sz := str_size l
  go_enter Tryz.func45, Tryz.ntmps45
  go_wp2_with fail
  go_loop [3, 4] (fun n i => ∃ k : Nat, k ≤ l.length ∧ k ≤ 9 ∧ i = .int .i64 k ∧ n = .int .i64 (Txt.plain (l.take k))) (fun _ i => 9 - (intOf i).toNat)
  case atStart => exact ⟨0, by omega, by omega, rfl, by simp [Txt.plain]⟩
  case round =>
    obtain ⟨k, hk, hk9, rfl, rfl⟩ := hrel
    by_cases hlt : k < l.length
    · have hgo : ((k : Int) < (l.length : Int)) := by omega
      by_cases h9 : k < 9
      · have hgs : (str l)[k]'(by rw [str_size]; exact hlt) = l[k] := get_str l k _
        have nb := Txt.plain_bd9 (l.take k) (by simp; omega)
        have hsn := Txt.plain_snoc (l.take k) l[k]
        rw [← take_snoc' l k hlt] at hsn
        by_cases hd : Txt.isDg l[k] = true
        · rw [if_pos hd] at hsn
          have HS := Lib.hid hsn
          unfold Txt.isDg at hd
          simp at hd
          obtain ⟨hd1, hd2⟩ := hd
          have d1 : (48 : Int) ≤ (l[k].toNat : Int) := by omega
          have d2 : (l[k].toNat : Int) ≤ 57 := by omega
          clear hsn hd1 hd2
          generalize l[k] = c at *
          generalize Txt.plain (l.take k) = N at *
          go_wp2_with fail
          go_round
          case rel => exact ⟨k + 1, by omega, by omega, by go_num, by rw [HS.out]⟩
          case measure => simp [intOf]; omega
        · rw [if_neg hd] at hsn
          have HS := Lib.hid hsn
          have hd' : (l[k].toNat : Int) < 48 ∨ 57 < (l[k].toNat : Int) := by
            unfold Txt.isDg at hd
            simp at hd
            omega
          clear hsn hd
          generalize l[k] = c at *
          generalize Txt.plain (l.take k) = N at *
          rcases hd' with d1 | d1
          all_goals
            go_wp2_with fail
            go_round
            case rel => exact ⟨k + 1, by omega, by omega, by go_num, by rw [HS.out]⟩
            case measure => simp [intOf]; omega
      · have e9 := Lib.hid (show k = 9 by omega)
        go_wp2_with fail
        go_ret
        exact ⟨ret_int (by rw [e9.out]), rfl⟩
    · have hgo : ¬ ((k : Int) < (l.length : Int)) := by omega
      have e9 := Lib.hid (show l.take k = l.take 9 by rw [List.take_of_length_le (by omega), List.take_of_length_le (by omega)])
      go_wp2_with fail
      go_ret
      exact ⟨ret_int (by rw [e9.out]), rfl⟩

theorem split_len (c : UInt8) : ∀ (l cur : List UInt8), ∀ p ∈ Txt.split c l cur, p.length ≤ l.length + cur.length
  | [], cur, p, h => by simp [Txt.split] at h; subst h; simp
  | x :: r, cur, p, h => by
    unfold Txt.split at h
    split at h
    · rcases List.mem_cons.1 h with rfl | h
      · simp
      · have := split_len c r [] p h; simp at this ⊢; omega
    · have := split_len c r (cur ++ [x]) p h; simp at this ⊢; omega

theorem split_pos (c : UInt8) : ∀ (l cur : List UInt8), 1 ≤ (Txt.split c l cur).length
  | [], cur => by simp [Txt.split]
  | x :: r, cur => by
    unfold Txt.split
    split
    · simp
    · exact split_pos c r (cur ++ [x])

/-- The row of some texts, where there is one. -/
theorem Texts.at_ {ps : List (List UInt8)} {w : World} {e : Ending} {w' : World} (h : Texts ps w e w') (hp : 1 ≤ ps.length) :
    ∃ g cap, e = .returned (.slice (some ⟨g, 0, none⟩) ps.length cap) ∧ w.heap.size ≤ g ∧ g < w'.heap.size ∧ ps.length ≤ maxLen ∧ Below w.heap.size w w' ∧ ∀ j (hj : j < ps.length), w'.cell? ⟨g, j, none⟩ = some (.string (str ps[j])) := by
  obtain ⟨v, rfl, hown, hb⟩ := h
  have hown' := hown
  rcases hown.2 with ⟨_, h0⟩ | ⟨g, cap, cur, rfl, hg, hh, hc, hm, _⟩
  · omega
  · refine ⟨g, cap, rfl, hg, ?_, by omega, hb, fun j hj => ?_⟩
    · rcases Nat.lt_or_ge g w'.heap.size with h | h
      · exact h
      · rw [Array.getElem?_eq_none h] at hh; cases hh
    · rw [hown'.cellAt j (by omega)]
      simp [hj]

end Go.Proofs.YtfhcakpmlppbkaaGreatDoor
