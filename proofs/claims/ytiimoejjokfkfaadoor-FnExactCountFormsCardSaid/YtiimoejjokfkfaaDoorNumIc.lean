/- Contracts of impl's OrdinalText and ReadOrdinal: made by gen_numic.py. -/
import Derived.Test.YtiimoejjokfkfaaDoorNumR
import Derived.Deep.WholeRow
namespace Go.Proofs.YtiimoejjokfkfaaDoor.Num
open Go.RowKit

def wordsZ : Array Value := #[.string ⟨#[]⟩, .string ⟨#[]⟩, .string ⟨#[]⟩, .string ⟨#[]⟩, .string ⟨#[]⟩, .string ⟨#[]⟩, .string ⟨#[]⟩, .string ⟨#[]⟩, .string ⟨#[]⟩, .string ⟨#[]⟩, .string ⟨#[]⟩, .string ⟨#[]⟩, .string ⟨#[]⟩, .string ⟨#[]⟩, .string ⟨#[]⟩, .string ⟨#[]⟩, .string ⟨#[]⟩, .string ⟨#[]⟩, .string ⟨#[]⟩, .string ⟨#[]⟩]
theorem wpList_build_as {P : Program} {ops : Array Oper} {rest : List Oper} {o : Oper} {a : Act} {w : World} {Q : Exit → Act → World → Prop} (hg : o.guard = none) (t : TypeId) (parts : Array (Nat × Operand)) (ho : o.op = .build t parts) (v : Array Value)
    (hf : P.built t (parts.map fun (i, x) => (i, a.eval x)).toList = some v)
    (h : wpList P ops Q rest (a.put o.dst (.agg v)) w) : wpList P ops Q (o :: rest) a w :=
  wpList_build hg t parts ho (by rw [hf]; rfl) (by rw [hf]; exact h)

set_option maxHeartbeats 2000000 in
theorem impl_OrdinalText (n : Int) (w : World) : Calls Tryd.prog 17 #[.int .i64 n] w (Tx (ordL n) w) := by
  by_cases h1 : 1 ≤ n
  · by_cases h2 : n ≤ 31
    · obtain ⟨m, rfl⟩ := Int.eq_ofNat_of_zero_le (show 0 ≤ n by omega)
      have HO := Lib.hid (show ordN m = ordL m from by unfold ordL; rw [if_pos ⟨h1, h2⟩, Int.toNat_natCast])
      have hnw := (Below.refl w.heap.size w).alloc (Nat.le_refl _) (.cells wordsV 48)
      by_cases a : m ≤ 20
      · obtain ⟨j, rfl⟩ : ∃ j, m = j + 1 := ⟨m - 1, by omega⟩
        have HW := Lib.hid (show wordsL[j]?.getD [] = ordL ((j + 1 : Nat) : Int) by rw [← HO.out]; unfold ordN; rw [if_pos (by omega)]; rfl)
        generalize ordL ((j + 1 : Nat) : Int) = T at *
        have e1 : ((j + 1 : Nat) : Int) = (j : Int) + 1 := by omega
        rw [e1] at *
        have g1 : ¬ (j : Int) + 1 < 1 := by omega
        have g2 : ¬ (31 : Int) < (j : Int) + 1 := by omega
        have a1 : (j : Int) + 1 ≤ 20 := by omega
        have c := words_at j (by omega)
        clear HO e1 h1 h2
        go_enter Tryd.func17, Tryd.ntmps17
        go_wp2_with (first
          | (refine wpList_build_as rfl 48 _ rfl wordsV (by kernel_rfl) ?_)
          | (refine wpList_store_row rfl 48 _ _ rfl w.heap.size wordsV rfl rfl 48 wordsZ (heap_alloc_last w _) (by kernel_rfl) rfl (by kernel_rfl) ?_; rw [World.setRow_alloc_new]))
        go_ret
        exact ⟨congrArg (fun s => Ending.returned (.string (str s))) HW.out, hnw⟩
      by_cases b : m = 30
      · subst b
        rw [← HO.out]
        clear HO h1 h2 a
        go_enter Tryd.func17, Tryd.ntmps17
        go_wp2_with (first
          | (refine wpList_build_as rfl 48 _ rfl wordsV (by kernel_rfl) ?_)
          | (refine wpList_store_row rfl 48 _ _ rfl w.heap.size wordsV rfl rfl 48 wordsZ (heap_alloc_last w _) (by kernel_rfl) rfl (by kernel_rfl) ?_; rw [World.setRow_alloc_new]))
        go_ret
        exact ⟨rfl, hnw⟩
      by_cases d : m = 31
      · subst d
        rw [← HO.out]
        have c := words_at 0 (by omega)
        clear HO h1 h2 a b
        go_enter Tryd.func17, Tryd.ntmps17
        go_wp2_with (first
          | (refine wpList_build_as rfl 48 _ rfl wordsV (by kernel_rfl) ?_)
          | (refine wpList_store_row rfl 48 _ _ rfl w.heap.size wordsV rfl rfl 48 wordsZ (heap_alloc_last w _) (by kernel_rfl) rfl (by kernel_rfl) ?_; rw [World.setRow_alloc_new]))
        go_ret
        exact ⟨rfl, hnw⟩
      obtain ⟨j, rfl⟩ : ∃ j, m = j + 21 := ⟨m - 21, by omega⟩
      have hj : j < 9 := by omega
      have HW := Lib.hid (show ([116, 119, 101, 110, 116, 121, 45] : List UInt8) ++ wordsL[j]?.getD [] = ordL ((j + 21 : Nat) : Int) by rw [← HO.out]; unfold ordN; rw [if_neg (by omega), if_neg (by omega), if_neg (by omega), if_pos (by omega)]; rfl)
      generalize ordL ((j + 21 : Nat) : Int) = T at *
      have e1 : ((j + 21 : Nat) : Int) = (j : Int) + 21 := by omega
      rw [e1] at *
      have g1 : ¬ (j : Int) + 21 < 1 := by omega
      have g2 : ¬ (31 : Int) < (j : Int) + 21 := by omega
      have a1 : ¬ (j : Int) + 21 ≤ 20 := by omega
      have a2 : (j : Int) + 21 < 30 := by omega
      have c := words_at j (by omega)
      have sl := words_len j
      have sz := str_size (wordsL[j]?.getD [])
      clear HO e1 a b d h1 h2
      go_enter Tryd.func17, Tryd.ntmps17
      go_wp2_with (first
        | (refine wpList_build_as rfl 48 _ rfl wordsV (by kernel_rfl) ?_)
        | (refine wpList_store_row rfl 48 _ _ rfl w.heap.size wordsV rfl rfl 48 wordsZ (heap_alloc_last w _) (by kernel_rfl) rfl (by kernel_rfl) ?_; rw [World.setRow_alloc_new]))
      go_ret
      exact ⟨congrArg (fun s => Ending.returned (.string s)) ((str_add [116, 119, 101, 110, 116, 121, 45] _).trans (congrArg str HW.out)), hnw⟩
    · rw [show ordL n = [] from if_neg (fun q => h2 q.2)]
      have g1 : ¬ n < 1 := by omega
      have g2 : 31 < n := by omega
      clear h1 h2
      go_enter Tryd.func17, Tryd.ntmps17
      go_wp2_with fail
      go_ret
      exact ⟨rfl, Below.refl _ _⟩
  · rw [show ordL n = [] from if_neg (fun q => h1 q.1)]
    have g1 : n < 1 := by omega
    clear h1
    go_enter Tryd.func17, Tryd.ntmps17
    go_wp2_with fail
    go_ret
    exact ⟨rfl, Below.refl _ _⟩

set_option maxHeartbeats 1000000 in
theorem impl_ReadOrdinal (s : ByteArray) (w : World) : Calls Tryd.prog 19 #[.string s] w (NB (OrdAns s.toList) w) := by
  go_enter Tryd.func19, Tryd.ntmps19
  go_wp2_with fail
  go_loopg [4] 31 (fun m i wr => ∃ k : Nat, 1 ≤ k ∧ k ≤ 32 ∧ m = 32 - k ∧ i = .int .i64 k ∧ Hid (∀ i : Nat, 1 ≤ i → i < k → ordL i ≠ s.toList) ∧ Below w.heap.size w wr)
  case atStart => exact ⟨1, by omega, by omega, by omega, rfl, Lib.hid (fun i h h2 => by omega), Below.refl _ _⟩
  case round =>
    obtain ⟨k, hk1, hk, hm, rfl, HK, bel⟩ := hrel
    subst hm
    by_cases hlt : k ≤ 31
    · have hgo : (k : Int) ≤ 31 := by omega
      have O := Lib.hid (impl_OrdinalText k)
      obtain ⟨T, hT⟩ : ∃ T, ordL k = T := ⟨_, rfl⟩
      have et := str_toList T
      have HT := Lib.hid hT
      rw [hT] at O
      clear hT
      by_cases hs : T = s.toList
      · have e : ((str T).toList == s.toList) = true := by rw [et, hs]; simp
        have HN := Lib.hid (show OrdAns s.toList k true from .inl ⟨k, hk1, hlt, rfl, rfl, HT.out.trans hs, HK.out⟩)
        clear hs et HK HT
        go_wp2_with fail
        refine (O.out _).mono ?_
        rintro e w2 ⟨rfl, k2⟩
        go_wp2_with fail
        go_ret2
        exact ⟨k, true, rfl, HN.out, below_step bel k2⟩
      · have e : ((str T).toList == s.toList) = false := by rw [et]; simpa using hs
        have HN : Hid (∀ i : Nat, 1 ≤ i → i < k + 1 → ordL i ≠ s.toList) := fun i h1 hi ei => by
          by_cases h : i = k
          · subst h; exact hs (HT.out.symm.trans ei)
          · exact HK.out i h1 (by omega) ei
        clear hs et HK HT
        go_wp2_with fail
        refine (O.out _).mono ?_
        rintro e w2 ⟨rfl, k2⟩
        go_wp2_with fail
        go_roundg (32 - (k + 1))
        case measure => omega
        case rel => exact ⟨k + 1, by omega, by omega, by omega, by go_num, HN, below_step bel k2⟩
    · have hgo : ¬ (k : Int) ≤ 31 := by omega
      have HN := Lib.hid (show OrdAns s.toList 0 false from .inr ⟨rfl, rfl, fun i h1 h2 => HK.out i h1 (by omega)⟩)
      go_wp2_with fail
      go_ret2
      exact ⟨0, false, rfl, HN.out, bel⟩

end Go.Proofs.YtiimoejjokfkfaaDoor.Num
