/- Contracts of spec's words for ordinals. -/
import Derived.Test.YtiimoejjokfkfaaDoorNumB
namespace Go.Proofs.YtiimoejjokfkfaaDoor.Num
open Go.RowKit

/-- The words for 1 to 20. -/
def wordsL : List (List UInt8) := [[102, 105, 114, 115, 116], [115, 101, 99, 111, 110, 100], [116, 104, 105, 114, 100], [102, 111, 117, 114, 116, 104], [102, 105, 102, 116, 104], [115, 105, 120, 116, 104], [115, 101, 118, 101, 110, 116, 104], [101, 105, 103, 104, 116, 104], [110, 105, 110, 116, 104], [116, 101, 110, 116, 104], [101, 108, 101, 118, 101, 110, 116, 104], [116, 119, 101, 108, 102, 116, 104], [116, 104, 105, 114, 116, 101, 101, 110, 116, 104], [102, 111, 117, 114, 116, 101, 101, 110, 116, 104], [102, 105, 102, 116, 101, 101, 110, 116, 104], [115, 105, 120, 116, 101, 101, 110, 116, 104], [115, 101, 118, 101, 110, 116, 101, 101, 110, 116, 104], [101, 105, 103, 104, 116, 101, 101, 110, 116, 104], [110, 105, 110, 101, 116, 101, 101, 110, 116, 104], [116, 119, 101, 110, 116, 105, 101, 116, 104]]
/-- The words for 1 to 31, nothing else. -/
def ordN (n : Nat) : List UInt8 := if 1 ≤ n ∧ n ≤ 20 then wordsL[n - 1]?.getD [] else if n = 30 then [116, 104, 105, 114, 116, 105, 101, 116, 104] else if n = 31 then [116, 104, 105, 114, 116, 121, 45, 102, 105, 114, 115, 116] else if 21 ≤ n ∧ n ≤ 29 then [116, 119, 101, 110, 116, 121, 45] ++ wordsL[n - 21]?.getD [] else []
def ordL (n : Int) : List UInt8 := if 1 ≤ n ∧ n ≤ 31 then ordN n.toNat else []

def wordsV : Array Value := #[.string ⟨#[102, 105, 114, 115, 116]⟩, .string ⟨#[115, 101, 99, 111, 110, 100]⟩, .string ⟨#[116, 104, 105, 114, 100]⟩, .string ⟨#[102, 111, 117, 114, 116, 104]⟩, .string ⟨#[102, 105, 102, 116, 104]⟩, .string ⟨#[115, 105, 120, 116, 104]⟩, .string ⟨#[115, 101, 118, 101, 110, 116, 104]⟩, .string ⟨#[101, 105, 103, 104, 116, 104]⟩, .string ⟨#[110, 105, 110, 116, 104]⟩, .string ⟨#[116, 101, 110, 116, 104]⟩, .string ⟨#[101, 108, 101, 118, 101, 110, 116, 104]⟩, .string ⟨#[116, 119, 101, 108, 102, 116, 104]⟩, .string ⟨#[116, 104, 105, 114, 116, 101, 101, 110, 116, 104]⟩, .string ⟨#[102, 111, 117, 114, 116, 101, 101, 110, 116, 104]⟩, .string ⟨#[102, 105, 102, 116, 101, 101, 110, 116, 104]⟩, .string ⟨#[115, 105, 120, 116, 101, 101, 110, 116, 104]⟩, .string ⟨#[115, 101, 118, 101, 110, 116, 101, 101, 110, 116, 104]⟩, .string ⟨#[101, 105, 103, 104, 116, 101, 101, 110, 116, 104]⟩, .string ⟨#[110, 105, 110, 101, 116, 101, 101, 110, 116, 104]⟩, .string ⟨#[116, 119, 101, 110, 116, 105, 101, 116, 104]⟩]
theorem words_at (j : Nat) (h : j < 20) : wordsV[j]? = some (.string (str (wordsL[j]?.getD []))) := by
  have : j = 0 ∨ j = 1 ∨ j = 2 ∨ j = 3 ∨ j = 4 ∨ j = 5 ∨ j = 6 ∨ j = 7 ∨ j = 8 ∨ j = 9 ∨ j = 10 ∨ j = 11 ∨ j = 12 ∨ j = 13 ∨ j = 14 ∨ j = 15 ∨ j = 16 ∨ j = 17 ∨ j = 18 ∨ j = 19 := by omega
  rcases this with rfl | rfl | rfl | rfl | rfl | rfl | rfl | rfl | rfl | rfl | rfl | rfl | rfl | rfl | rfl | rfl | rfl | rfl | rfl | rfl <;> rfl

/-- What a call leaves that answers the words for 1 to 20. -/
def Words (w : World) (e : Ending) (w' : World) : Prop :=
  ∃ g : Nat, e = .returned (.slice (some ⟨g, 0, none⟩) 20 20) ∧ (∀ j, j < 20 → w'.cell? ⟨g, j, none⟩ = some (.string (str (wordsL[j]?.getD [])))) ∧ Below w.heap.size w w'

set_option maxHeartbeats 1000000 in
theorem spec_words (w : World) : Calls Tryd.prog 50 #[] w (Words w) := by
  go_enter Tryd.func50, Tryd.ntmps50
  go_wp2_with fail
  go_ret
  exact ⟨w.heap.size, rfl, fun j hj => (World.cell?_alloc_new w _ _ _).trans (words_at j hj), (Below.refl _ _).alloc (Nat.le_refl _) _⟩

theorem words_len (j : Nat) : (wordsL[j]?.getD []).length ≤ 12 := by
  by_cases h : j < 20
  · have : j = 0 ∨ j = 1 ∨ j = 2 ∨ j = 3 ∨ j = 4 ∨ j = 5 ∨ j = 6 ∨ j = 7 ∨ j = 8 ∨ j = 9 ∨ j = 10 ∨ j = 11 ∨ j = 12 ∨ j = 13 ∨ j = 14 ∨ j = 15 ∨ j = 16 ∨ j = 17 ∨ j = 18 ∨ j = 19 := by omega
    rcases this with rfl | rfl | rfl | rfl | rfl | rfl | rfl | rfl | rfl | rfl | rfl | rfl | rfl | rfl | rfl | rfl | rfl | rfl | rfl | rfl <;> decide
  · rw [List.getElem?_eq_none (by show (20 : Nat) ≤ j; omega)]
    decide

theorem spec_OrdinalText (n : Int) (w : World) : Calls Tryd.prog 26 #[.int .i64 n] w (Tx (ordL n) w) := by
  by_cases h : 1 ≤ n ∧ n ≤ 31
  · obtain ⟨m, rfl⟩ := Int.eq_ofNat_of_zero_le (show 0 ≤ n by omega)
    have I := Lib.hid (fun w => spec_in (m : Int) 1 31 w)
    rw [show inB (m : Int) 1 31 = true from decide_eq_true h] at I
    have HO := Lib.hid (show ordN m = ordL m from by unfold ordL; rw [if_pos h, Int.toNat_natCast])
    obtain ⟨h1, h2⟩ := h
    by_cases a : m ≤ 20
    · obtain ⟨j, rfl⟩ : ∃ j, m = j + 1 := ⟨m - 1, by omega⟩
      have HW := Lib.hid (show wordsL[j]?.getD [] = ordL ((j + 1 : Nat) : Int) by rw [← HO.out]; unfold ordN; rw [if_pos (by omega)]; rfl)
      generalize ordL ((j + 1 : Nat) : Int) = T at *
      have e1 : ((j + 1 : Nat) : Int) = (j : Int) + 1 := by omega
      rw [e1] at *
      have a1 : (j : Int) + 1 ≤ 20 := by omega
      clear HO e1
      go_enter Tryd.func26, Tryd.ntmps26
      go_wp2_with fail
      refine (I.out _).mono ?_
      rintro e w1 ⟨rfl, rfl⟩
      go_wp2_with fail
      refine (spec_words _).mono ?_
      rintro e w2 ⟨g, rfl, hc, k⟩
      have hcj := hc j (by omega)
      clear hc
      go_wp2_with fail
      go_ret
      exact ⟨congrArg (fun s => Ending.returned (.string (str s))) HW.out, k⟩
    · by_cases b : m = 30
      · subst b
        rw [← HO.out]
        go_enter Tryd.func26, Tryd.ntmps26
        go_wp2_with fail
        refine (I.out _).mono ?_
        rintro e w1 ⟨rfl, rfl⟩
        go_wp2_with fail
        go_ret
        exact ⟨rfl, Below.refl _ _⟩
      by_cases c : m = 31
      · subst c
        rw [← HO.out]
        go_enter Tryd.func26, Tryd.ntmps26
        go_wp2_with fail
        refine (I.out _).mono ?_
        rintro e w1 ⟨rfl, rfl⟩
        go_wp2_with fail
        go_ret
        exact ⟨rfl, Below.refl _ _⟩
      obtain ⟨j, rfl⟩ : ∃ j, m = j + 21 := ⟨m - 21, by omega⟩
      have hj : j < 9 := by omega
      have HW := Lib.hid (show ([116, 119, 101, 110, 116, 121, 45] : List UInt8) ++ wordsL[j]?.getD [] = ordL ((j + 21 : Nat) : Int) by rw [← HO.out]; unfold ordN; rw [if_neg (by omega), if_neg (by omega), if_neg (by omega), if_pos (by omega)]; rfl)
      generalize ordL ((j + 21 : Nat) : Int) = T at *
      have e1 : ((j + 21 : Nat) : Int) = (j : Int) + 21 := by omega
      rw [e1] at *
      have a1 : ¬ (j : Int) + 21 ≤ 20 := by omega
      have a2 : ((j : Int) + 21 == 30) = false := by simp; omega
      have a3 : ((j : Int) + 21 == 31) = false := by simp; omega
      have sl := words_len j
      have sz := str_size (wordsL[j]?.getD [])
      clear HO e1 a b c h2
      go_enter Tryd.func26, Tryd.ntmps26
      go_wp2_with fail
      refine (I.out _).mono ?_
      rintro e w1 ⟨rfl, rfl⟩
      go_wp2_with fail
      refine (spec_words _).mono ?_
      rintro e w2 ⟨g, rfl, hc, k⟩
      have hcj := hc j (by omega)
      clear hc
      go_wp2_with fail
      go_ret
      exact ⟨congrArg (fun s => Ending.returned (.string s)) ((str_add [116, 119, 101, 110, 116, 121, 45] _).trans (congrArg str HW.out)), k⟩
  · have I := Lib.hid (fun w => spec_in n 1 31 w)
    rw [show inB n 1 31 = false from decide_eq_false h] at I
    rw [show ordL n = [] from if_neg h]
    clear h
    go_enter Tryd.func26, Tryd.ntmps26
    go_wp2_with fail
    refine (I.out _).mono ?_
    rintro e w1 ⟨rfl, rfl⟩
    go_wp2_with fail
    go_ret
    exact ⟨rfl, Below.refl _ _⟩

end Go.Proofs.YtiimoejjokfkfaaDoor.Num
