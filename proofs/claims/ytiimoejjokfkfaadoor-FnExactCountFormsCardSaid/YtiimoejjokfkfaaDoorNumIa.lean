/- Contracts of impl's digits and forms of numerals: NumeralText, OldNumeral. -/
import Derived.Test.YtiimoejjokfkfaaDoorNumJ
import Derived.Test.YtiimoejjokfkfaaDoorShelf
namespace Go.Proofs.YtiimoejjokfkfaaDoor.Num
open Go.RowKit

theorem go_Repeat (c : UInt8) (k : Nat) (hk : k ≤ 9) (w : World) : Calls Tryd.prog 52 #[.string ⟨#[c]⟩, .int .i64 k] w (Tx (List.replicate k c) w) := by
  have sz : (⟨#[c]⟩ : ByteArray).size = 1 := rfl
  refine (Tryd.strings_Repeat ⟨#[c]⟩ k w (by omega) (by rw [sz]; omega)).mono ?_
  rintro e w1 ⟨rfl, hb⟩
  exact ⟨congrArg (fun l => Ending.returned (.string (str l))) (rep1 c k), hb⟩
theorem go_CutSuffix_yes (l : List UInt8) (hl : l.length ≤ 2000000) (a : UInt8) (h : Lib.hasSuffix l [a] = true) (w : World) :
    Calls Tryd.prog 33 #[.string (str l), .string ⟨#[a]⟩] w fun e w' => e = .returned (.tuple #[.string (str (Lib.trimSuffix l [a])), .bool true]) ∧ w' = w := by
  have sz := str_size l
  refine (Tryd.strings_CutSuffix (str l) ⟨#[a]⟩ w (by omega)).mono ?_
  rintro e w1 ⟨rfl, hb⟩
  refine ⟨?_, hb⟩
  show Ending.returned (.tuple #[.string (str (Lib.trimSuffix l [a])), .bool (Lib.hasSuffix l [a])]) = _
  rw [h]
theorem go_CutSuffix_no (l : List UInt8) (hl : l.length ≤ 2000000) (a : UInt8) (h : Lib.hasSuffix l [a] = false) (w : World) :
    Calls Tryd.prog 33 #[.string (str l), .string ⟨#[a]⟩] w fun e w' => e = .returned (.tuple #[.string (str l), .bool false]) ∧ w' = w := by
  have sz := str_size l
  refine (Tryd.strings_CutSuffix (str l) ⟨#[a]⟩ w (by omega)).mono ?_
  rintro e w1 ⟨rfl, hb⟩
  refine ⟨?_, hb⟩
  show Ending.returned (.tuple #[.string (str (Lib.trimSuffix l [a])), .bool (Lib.hasSuffix l [a])]) = _
  rw [h]
  unfold Lib.trimSuffix
  rw [if_neg (by rw [h]; decide)]

theorem impl_isN (n : Int) (b : Bool) (h : decide (isN n) = b) (w : World) : Calls Tryd.prog 29 #[.int .i64 n] w fun e w' => e = .returned (.bool b) ∧ w = w' := by
  subst h
  unfold isN
  by_cases h1 : 1 ≤ n
  · by_cases h2 : n ≤ 3999
    · rw [show decide (1 ≤ n ∧ n ≤ 3999) = true from decide_eq_true ⟨h1, h2⟩]
      go_enter Tryd.func29, Tryd.ntmps29
      go_wp2_with fail
      go_ret
      exact ⟨rfl, rfl⟩
    · rw [show decide (1 ≤ n ∧ n ≤ 3999) = false from decide_eq_false (fun q => h2 q.2)]
      go_enter Tryd.func29, Tryd.ntmps29
      go_wp2_with fail
      go_ret
      exact ⟨rfl, rfl⟩
  · rw [show decide (1 ≤ n ∧ n ≤ 3999) = false from decide_eq_false (fun q => h1 q.1)]
    go_enter Tryd.func29, Tryd.ntmps29
    go_wp2_with fail
    go_ret
    exact ⟨rfl, rfl⟩

theorem impl_thousands (n kt : Nat) (hK : kt ≤ 3) (q1 : (n : Int).tdiv 1000 = (kt : Int)) (w : World) : Calls Tryd.prog 30 #[.int .i64 n] w (Tx (List.replicate kt 109) w) := by
  have R := Lib.hid (go_Repeat 109 kt (by omega))
  go_enter Tryd.func30, Tryd.ntmps30
  go_wp2_with fail
  refine (R.out _).mono ?_
  rintro e w1 ⟨rfl, b1⟩
  go_wp2_with fail
  go_ret
  exact ⟨rfl, b1⟩

theorem impl_added (a b : UInt8) (k : Nat) (h : k ≤ 9) (w : World) : Calls Tryd.prog 32 #[.int .i64 k, .string ⟨#[a]⟩, .string ⟨#[b]⟩] w (Tx (dgo a b k) w) := by
  by_cases h5 : 5 ≤ k
  · obtain ⟨j, rfl⟩ : ∃ j, k = j + 5 := ⟨k - 5, by omega⟩
    have R := Lib.hid (go_Repeat a j (by omega))
    have sz := str_size (List.replicate j a)
    rw [List.length_replicate] at sz
    have e5 : ((j + 5 : Nat) : Int) = (j : Int) + 5 := by omega
    rw [e5]
    have g : (5 : Int) ≤ (j : Int) + 5 := by omega
    have E := Lib.hid (show (⟨#[b]⟩ : ByteArray) ++ str (List.replicate j a) = str (dgo a b (j + 5)) by
      rw [one_add]
      unfold dgo
      rw [if_pos h5, Nat.add_sub_cancel])
    clear h5 e5
    go_enter Tryd.func32, Tryd.ntmps32
    go_wp2_with fail
    refine (R.out _).mono ?_
    rintro e w1 ⟨rfl, b1⟩
    go_wp2_with fail
    go_ret
    exact ⟨congrArg (fun s => Ending.returned (.string s)) E.out, b1⟩
  · have R := Lib.hid (go_Repeat a k (by omega))
    rw [show dgo a b k = List.replicate k a from if_neg h5]
    have g : ¬ (5 : Int) ≤ (k : Int) := by omega
    go_enter Tryd.func32, Tryd.ntmps32
    go_wp2_with fail
    refine (R.out _).mono ?_
    rintro e w1 ⟨rfl, b1⟩
    go_wp2_with fail
    go_ret
    exact ⟨rfl, b1⟩

theorem two_add (a b : UInt8) : (⟨#[a]⟩ : ByteArray) ++ (⟨#[b]⟩ : ByteArray) = str [a, b] := str_add [a] [b]

theorem impl_usual (a b c : UInt8) (k : Nat) (h : k ≤ 9) (w : World) : Calls Tryd.prog 31 #[.int .i64 k, .string ⟨#[a]⟩, .string ⟨#[b]⟩, .string ⟨#[c]⟩] w (Tx (dgL a b c k false) w) := by
  by_cases h4 : k = 4
  · subst h4
    go_enter Tryd.func31, Tryd.ntmps31
    go_wp2_with fail
    go_ret
    exact ⟨congrArg (fun s => Ending.returned (.string s)) (two_add a b), Below.refl _ _⟩
  by_cases h9 : k = 9
  · subst h9
    go_enter Tryd.func31, Tryd.ntmps31
    go_wp2_with fail
    go_ret
    exact ⟨congrArg (fun s => Ending.returned (.string s)) (two_add a c), Below.refl _ _⟩
  have n4 : ((k : Int) == 4) = false := by simp; omega
  have n9 : ((k : Int) == 9) = false := by simp; omega
  have R := Lib.hid (impl_added a b k h)
  rw [show dgL a b c k false = dgo a b k from by unfold dgL; rw [if_neg (fun q => h4 q.1), if_neg (fun q => h9 q.1)]]
  clear h4 h9
  go_enter Tryd.func31, Tryd.ntmps31
  go_wp2_with fail
  refine (R.out _).mono ?_
  rintro e w1 ⟨rfl, b1⟩
  go_wp2_with fail
  go_ret
  exact ⟨rfl, b1⟩

set_option maxHeartbeats 1000000 in
theorem impl_NumeralText0 (n kt c2 d2 c3 d3 d4 : Nat) (l1 l2 l3 l : List UInt8) (I : Hid (∀ w, Calls Tryd.prog 29 #[.int .i64 n] w fun e w' => e = .returned (.bool true) ∧ w = w'))
    (T : Hid (∀ w, Calls Tryd.prog 30 #[.int .i64 n] w (Tx (List.replicate kt 109) w)))
    (D1 : Hid (∀ w, Calls Tryd.prog 31 #[.int .i64 d2, .string ⟨#[99]⟩, .string ⟨#[100]⟩, .string ⟨#[109]⟩] w (Tx l1 w)))
    (D2 : Hid (∀ w, Calls Tryd.prog 31 #[.int .i64 d3, .string ⟨#[120]⟩, .string ⟨#[108]⟩, .string ⟨#[99]⟩] w (Tx l2 w)))
    (D3 : Hid (∀ w, Calls Tryd.prog 31 #[.int .i64 d4, .string ⟨#[105]⟩, .string ⟨#[118]⟩, .string ⟨#[120]⟩] w (Tx l3 w)))
    (HF : Hid (List.replicate kt 109 ++ l1 ++ l2 ++ l3 = l))
    (k1 : l1.length ≤ 5) (k2 : l2.length ≤ 5) (k3 : l3.length ≤ 5) (_hn : n ≤ 3999) (hK : kt ≤ 3) (hc2 : c2 ≤ 39) (hc3 : c3 ≤ 399) (_hd2 : d2 ≤ 9) (_hd3 : d3 ≤ 9) (_hd4 : d4 ≤ 9)
    (q2 : (n : Int).tdiv 100 = (c2 : Int)) (q3 : (n : Int).tdiv 10 = (c3 : Int))
    (m2 : (c2 : Int).tmod 10 = (d2 : Int)) (m3 : (c3 : Int).tmod 10 = (d3 : Int)) (m4 : (n : Int).tmod 10 = (d4 : Int)) (w : World) :
    Calls Tryd.prog 9 #[.int .i64 n] w (Tx l w) := by
  have s1 := str_size l1
  have s2 := str_size l2
  have s3 := str_size l3
  have sz := str_size (List.replicate kt 109)
  rw [List.length_replicate] at sz
  go_enter Tryd.func9, Tryd.ntmps9
  go_wp2_with fail
  refine (I.out _).mono ?_
  rintro e w0 ⟨rfl, rfl⟩
  go_wp2_with fail
  refine (T.out _).mono ?_
  rintro e w4 ⟨rfl, b4⟩
  go_wp2_with fail
  refine (D1.out _).mono ?_
  rintro e w1 ⟨rfl, b1⟩
  go_wp2_with fail
  refine (D2.out _).mono ?_
  rintro e w2 ⟨rfl, b2⟩
  go_wp2_with fail
  refine (D3.out _).mono ?_
  rintro e w3 ⟨rfl, b3⟩
  have bel := below_step (below_step (below_step b4 b1) b2) b3
  go_wp2_with fail
  go_ret
  exact ⟨congrArg (fun s => Ending.returned (.string s)) (by rw [str_add, str_add, str_add]; exact congrArg str HF.out), bel⟩

set_option maxHeartbeats 1000000 in
theorem impl_OldNumeral0 (n kt c2 d2 c3 d3 d4 : Nat) (l1 l2 l3 l t : List UInt8) (I : Hid (∀ w, Calls Tryd.prog 29 #[.int .i64 n] w fun e w' => e = .returned (.bool true) ∧ w = w'))
    (T : Hid (∀ w, Calls Tryd.prog 30 #[.int .i64 n] w (Tx (List.replicate kt 109) w)))
    (D1 : Hid (∀ w, Calls Tryd.prog 32 #[.int .i64 d2, .string ⟨#[99]⟩, .string ⟨#[100]⟩] w (Tx l1 w)))
    (D2 : Hid (∀ w, Calls Tryd.prog 32 #[.int .i64 d3, .string ⟨#[120]⟩, .string ⟨#[108]⟩] w (Tx l2 w)))
    (D3 : Hid (∀ w, Calls Tryd.prog 32 #[.int .i64 d4, .string ⟨#[105]⟩, .string ⟨#[117]⟩] w (Tx l3 w)))
    (HF : Hid (List.replicate kt 109 ++ l1 ++ l2 ++ l3 = l)) (HT : Hid (last 105 106 l = t))
    (k1 : l1.length ≤ 5) (k2 : l2.length ≤ 5) (k3 : l3.length ≤ 5) (_hn : n ≤ 3999) (hK : kt ≤ 3) (hc2 : c2 ≤ 39) (hc3 : c3 ≤ 399) (_hd2 : d2 ≤ 9) (_hd3 : d3 ≤ 9) (_hd4 : d4 ≤ 9)
    (q2 : (n : Int).tdiv 100 = (c2 : Int)) (q3 : (n : Int).tdiv 10 = (c3 : Int))
    (m2 : (c2 : Int).tmod 10 = (d2 : Int)) (m3 : (c3 : Int).tmod 10 = (d3 : Int)) (m4 : (n : Int).tmod 10 = (d4 : Int)) (w : World) :
    Calls Tryd.prog 10 #[.int .i64 n] w (Tx t w) := by
  have s1 := str_size l1
  have s2 := str_size l2
  have s3 := str_size l3
  have sz := str_size (List.replicate kt 109)
  rw [List.length_replicate] at sz
  have hl : l.length ≤ 18 := by
    rw [← HF.out]
    simp only [List.length_append, List.length_replicate]
    omega
  go_enter Tryd.func10, Tryd.ntmps10
  go_wp2_with fail
  refine (I.out _).mono ?_
  rintro e w0 ⟨rfl, rfl⟩
  go_wp2_with fail
  refine (T.out _).mono ?_
  rintro e w4 ⟨rfl, b4⟩
  go_wp2_with fail
  refine (D1.out _).mono ?_
  rintro e w1 ⟨rfl, b1⟩
  go_wp2_with fail
  refine (D2.out _).mono ?_
  rintro e w2 ⟨rfl, b2⟩
  go_wp2_with fail
  refine (D3.out _).mono ?_
  rintro e w3 ⟨rfl, b3⟩
  have bel := below_step (below_step (below_step b4 b1) b2) b3
  clear b4 b1 b2 b3
  rcases hs : Lib.hasSuffix l [105] with _ | _
  · have C := Lib.hid (go_CutSuffix_no l (by omega) 105 hs)
    rw [← HF.out] at C
    have E := Lib.hid (show List.replicate kt 109 ++ l1 ++ l2 ++ l3 = t by rw [HF.out, ← HT.out, suf_no hs 106])
    clear hs
    go_wp2_with fail
    refine (C.out _).mono ?_
    rintro e w5 ⟨rfl, rfl⟩
    go_wp2_with fail
    go_ret
    exact ⟨congrArg (fun s => Ending.returned (.string (str s))) E.out, bel⟩
  · have C := Lib.hid (go_CutSuffix_yes l (by omega) 105 hs)
    have E0 := HF.out
    have E := Lib.hid (show str (Lib.trimSuffix l [105]) ++ (⟨#[106]⟩ : ByteArray) = str t by rw [← HT.out, suf_yes hs 106]; exact str_add _ [106])
    have le := Lib.trimSuffix_le l [105]
    have sl := str_size (Lib.trimSuffix l [105])
    clear hs
    generalize Lib.trimSuffix l [105] = l' at *
    rw [← E0] at C
    clear E0
    go_wp2_with fail
    refine (C.out _).mono ?_
    rintro e w5 ⟨rfl, rfl⟩
    go_wp2_with fail
    go_ret
    exact ⟨congrArg (fun s => Ending.returned (.string s)) E.out, bel⟩

theorem impl_NumeralText (n : Int) (w : World) : Calls Tryd.prog 9 #[.int .i64 n] w (Tx (ntL n) w) := by
  by_cases h : isN n
  · obtain ⟨m, rfl⟩ := Int.eq_ofNat_of_zero_le (show 0 ≤ n by have := h.1; omega)
    have hm : m ≤ 3999 := by have := h.2; omega
    have key : ∀ (a b c : UInt8) (k : Nat), k ≤ 9 → (dgL a b c k false).length ≤ 5 := by
      intro a b c k hk
      unfold dgL dgo
      repeat' split
      all_goals simp
      all_goals omega
    rw [show ntL (m : Int) = formN m false from (if_pos h).trans (by unfold form; rw [Int.toNat_natCast])]
    have q1 : (m : Int).tdiv 1000 = ((m / 1000 : Nat) : Int) := by rw [Int.tdiv_eq_ediv_of_nonneg (by omega)]; omega
    refine impl_NumeralText0 m (m / 1000) (m / 100) (m / 100 % 10) (m / 10) (m / 10 % 10) (m % 10) _ _ _ _ (Lib.hid (impl_isN m true (decide_eq_true h))) (Lib.hid (impl_thousands m (m / 1000) (by omega) q1))
      (Lib.hid (impl_usual 99 100 109 (m / 100 % 10) (by omega))) (Lib.hid (impl_usual 120 108 99 (m / 10 % 10) (by omega))) (Lib.hid (impl_usual 105 118 120 (m % 10) (by omega)))
      (Lib.hid rfl) (key 99 100 109 (m / 100 % 10) (by omega)) (key 120 108 99 (m / 10 % 10) (by omega)) (key 105 118 120 (m % 10) (by omega)) hm (by omega) (by omega) (by omega) (by omega) (by omega) (by omega) ?_ ?_ ?_ ?_ ?_ w
    · rw [Int.tdiv_eq_ediv_of_nonneg (by omega)]; omega
    · rw [Int.tdiv_eq_ediv_of_nonneg (by omega)]; omega
    · rw [Int.tmod_eq_emod_of_nonneg (by omega)]; omega
    · rw [Int.tmod_eq_emod_of_nonneg (by omega)]; omega
    · rw [Int.tmod_eq_emod_of_nonneg (by omega)]; omega
  · have I := Lib.hid (impl_isN n false (decide_eq_false h))
    rw [show ntL n = [] from if_neg h]
    clear h
    go_enter Tryd.func9, Tryd.ntmps9
    go_wp2_with fail
    refine (I.out _).mono ?_
    rintro e w1 ⟨rfl, rfl⟩
    go_wp2_with fail
    go_ret
    exact ⟨rfl, Below.refl _ _⟩

theorem impl_OldNumeral (n : Int) (w : World) : Calls Tryd.prog 10 #[.int .i64 n] w (Tx (onL n) w) := by
  by_cases h : isN n
  · obtain ⟨m, rfl⟩ := Int.eq_ofNat_of_zero_le (show 0 ≤ n by have := h.1; omega)
    have hm : m ≤ 3999 := by have := h.2; omega
    have key : ∀ (a b : UInt8) (k : Nat), k ≤ 9 → (dgo a b k).length ≤ 9 → (dgo a b k).length ≤ 5 := by
      intro a b k hk _
      unfold dgo
      split
      all_goals simp
      all_goals omega
    have key9 : ∀ (a b : UInt8) (k : Nat), k ≤ 9 → (dgo a b k).length ≤ 9 := by
      intro a b k hk
      unfold dgo
      split
      all_goals simp
      all_goals omega
    have q1 : (m : Int).tdiv 1000 = ((m / 1000 : Nat) : Int) := by rw [Int.tdiv_eq_ediv_of_nonneg (by omega)]; omega
    have HT : last 105 106 (List.replicate (m / 1000) 109 ++ dgo 99 100 (m / 100 % 10) ++ dgo 120 108 (m / 10 % 10) ++ dgo 105 117 (m % 10)) = onL (m : Int) := by
      rw [← old_digits]
      unfold onL oldL form
      rw [if_pos h, Int.toNat_natCast]
    refine impl_OldNumeral0 m (m / 1000) (m / 100) (m / 100 % 10) (m / 10) (m / 10 % 10) (m % 10) _ _ _ _ _ (Lib.hid (impl_isN m true (decide_eq_true h))) (Lib.hid (impl_thousands m (m / 1000) (by omega) q1))
      (Lib.hid (impl_added 99 100 (m / 100 % 10) (by omega))) (Lib.hid (impl_added 120 108 (m / 10 % 10) (by omega))) (Lib.hid (impl_added 105 117 (m % 10) (by omega)))
      (Lib.hid rfl) (Lib.hid HT) (key 99 100 (m / 100 % 10) (by omega) (key9 _ _ _ (by omega))) (key 120 108 (m / 10 % 10) (by omega) (key9 _ _ _ (by omega))) (key 105 117 (m % 10) (by omega) (key9 _ _ _ (by omega))) hm (by omega) (by omega) (by omega) (by omega) (by omega) (by omega) ?_ ?_ ?_ ?_ ?_ w
    · rw [Int.tdiv_eq_ediv_of_nonneg (by omega)]; omega
    · rw [Int.tdiv_eq_ediv_of_nonneg (by omega)]; omega
    · rw [Int.tmod_eq_emod_of_nonneg (by omega)]; omega
    · rw [Int.tmod_eq_emod_of_nonneg (by omega)]; omega
    · rw [Int.tmod_eq_emod_of_nonneg (by omega)]; omega
  · have I := Lib.hid (impl_isN n false (decide_eq_false h))
    rw [show onL n = [] from if_neg h]
    clear h
    go_enter Tryd.func10, Tryd.ntmps10
    go_wp2_with fail
    refine (I.out _).mono ?_
    rintro e w1 ⟨rfl, rfl⟩
    go_wp2_with fail
    go_ret
    exact ⟨rfl, Below.refl _ _⟩

end Go.Proofs.YtiimoejjokfkfaaDoor.Num
