/- Contracts of spec's digits and forms of numerals, NumeralText: made by gen_numa.py. -/
import Derived.Test.YtiimoejjokfkfaaDoorNumM
import Derived.Test.YtiimoejjokfkfaaDoorTextW
namespace Go.Proofs.YtiimoejjokfkfaaDoor.Num
open Go.RowKit

theorem tx_ret {l l' : List UInt8} (h : l = l') : Ending.returned (.string (str l)) = .returned (.string (str l')) := by rw [h]
theorem one_add (a : UInt8) (l : List UInt8) : (⟨#[a]⟩ : ByteArray) ++ str l = str (a :: l) := str_add [a] l

theorem dig0t (a b c : UInt8) (w : World) : Calls Tryd.prog 56 #[.int .i64 0, .string ⟨#[a]⟩, .string ⟨#[b]⟩, .string ⟨#[c]⟩, .bool true] w (Tx [] w) := by
  go_enter Tryd.func56, Tryd.ntmps56
  go_wp2_with fail
  go_ret
  exact ⟨rfl, Below.refl _ _⟩

theorem dig0f (a b c : UInt8) (w : World) : Calls Tryd.prog 56 #[.int .i64 0, .string ⟨#[a]⟩, .string ⟨#[b]⟩, .string ⟨#[c]⟩, .bool false] w (Tx [] w) := by
  go_enter Tryd.func56, Tryd.ntmps56
  go_wp2_with fail
  go_ret
  exact ⟨rfl, Below.refl _ _⟩

theorem dig1t (a b c : UInt8) (w : World) : Calls Tryd.prog 56 #[.int .i64 1, .string ⟨#[a]⟩, .string ⟨#[b]⟩, .string ⟨#[c]⟩, .bool true] w (Tx [a] w) := by
  have sz := str_size []
  simp at sz
  go_enter Tryd.func56, Tryd.ntmps56
  go_wp2_with fail
  refine (dig0t a b c _).mono ?_
  rintro e w1 ⟨rfl, hb⟩
  go_wp2_with fail
  go_ret
  exact ⟨congrArg (fun s => Ending.returned (.string s)) (one_add _ _), hb⟩

theorem dig1f (a b c : UInt8) (w : World) : Calls Tryd.prog 56 #[.int .i64 1, .string ⟨#[a]⟩, .string ⟨#[b]⟩, .string ⟨#[c]⟩, .bool false] w (Tx [a] w) := by
  have sz := str_size []
  simp at sz
  go_enter Tryd.func56, Tryd.ntmps56
  go_wp2_with fail
  refine (dig0t a b c _).mono ?_
  rintro e w1 ⟨rfl, hb⟩
  go_wp2_with fail
  go_ret
  exact ⟨congrArg (fun s => Ending.returned (.string s)) (one_add _ _), hb⟩

theorem dig2t (a b c : UInt8) (w : World) : Calls Tryd.prog 56 #[.int .i64 2, .string ⟨#[a]⟩, .string ⟨#[b]⟩, .string ⟨#[c]⟩, .bool true] w (Tx [a, a] w) := by
  have sz := str_size [a]
  simp at sz
  go_enter Tryd.func56, Tryd.ntmps56
  go_wp2_with fail
  refine (dig1t a b c _).mono ?_
  rintro e w1 ⟨rfl, hb⟩
  go_wp2_with fail
  go_ret
  exact ⟨congrArg (fun s => Ending.returned (.string s)) (one_add _ _), hb⟩

theorem dig2f (a b c : UInt8) (w : World) : Calls Tryd.prog 56 #[.int .i64 2, .string ⟨#[a]⟩, .string ⟨#[b]⟩, .string ⟨#[c]⟩, .bool false] w (Tx [a, a] w) := by
  have sz := str_size [a]
  simp at sz
  go_enter Tryd.func56, Tryd.ntmps56
  go_wp2_with fail
  refine (dig1t a b c _).mono ?_
  rintro e w1 ⟨rfl, hb⟩
  go_wp2_with fail
  go_ret
  exact ⟨congrArg (fun s => Ending.returned (.string s)) (one_add _ _), hb⟩

theorem dig3t (a b c : UInt8) (w : World) : Calls Tryd.prog 56 #[.int .i64 3, .string ⟨#[a]⟩, .string ⟨#[b]⟩, .string ⟨#[c]⟩, .bool true] w (Tx [a, a, a] w) := by
  have sz := str_size [a, a]
  simp at sz
  go_enter Tryd.func56, Tryd.ntmps56
  go_wp2_with fail
  refine (dig2t a b c _).mono ?_
  rintro e w1 ⟨rfl, hb⟩
  go_wp2_with fail
  go_ret
  exact ⟨congrArg (fun s => Ending.returned (.string s)) (one_add _ _), hb⟩

theorem dig3f (a b c : UInt8) (w : World) : Calls Tryd.prog 56 #[.int .i64 3, .string ⟨#[a]⟩, .string ⟨#[b]⟩, .string ⟨#[c]⟩, .bool false] w (Tx [a, a, a] w) := by
  have sz := str_size [a, a]
  simp at sz
  go_enter Tryd.func56, Tryd.ntmps56
  go_wp2_with fail
  refine (dig2t a b c _).mono ?_
  rintro e w1 ⟨rfl, hb⟩
  go_wp2_with fail
  go_ret
  exact ⟨congrArg (fun s => Ending.returned (.string s)) (one_add _ _), hb⟩

theorem dig4t (a b c : UInt8) (w : World) : Calls Tryd.prog 56 #[.int .i64 4, .string ⟨#[a]⟩, .string ⟨#[b]⟩, .string ⟨#[c]⟩, .bool true] w (Tx [a, a, a, a] w) := by
  have sz := str_size [a, a, a]
  simp at sz
  go_enter Tryd.func56, Tryd.ntmps56
  go_wp2_with fail
  refine (dig3t a b c _).mono ?_
  rintro e w1 ⟨rfl, hb⟩
  go_wp2_with fail
  go_ret
  exact ⟨congrArg (fun s => Ending.returned (.string s)) (one_add _ _), hb⟩

theorem dig4f (a b c : UInt8) (w : World) : Calls Tryd.prog 56 #[.int .i64 4, .string ⟨#[a]⟩, .string ⟨#[b]⟩, .string ⟨#[c]⟩, .bool false] w (Tx [a, b] w) := by
  go_enter Tryd.func56, Tryd.ntmps56
  go_wp2_with fail
  go_ret
  exact ⟨congrArg (fun s => Ending.returned (.string s)) (one_add a [b]), Below.refl _ _⟩

theorem dig5t (a b c : UInt8) (w : World) : Calls Tryd.prog 56 #[.int .i64 5, .string ⟨#[a]⟩, .string ⟨#[b]⟩, .string ⟨#[c]⟩, .bool true] w (Tx [b] w) := by
  have sz := str_size []
  simp at sz
  go_enter Tryd.func56, Tryd.ntmps56
  go_wp2_with fail
  refine (dig0t a b c _).mono ?_
  rintro e w1 ⟨rfl, hb⟩
  go_wp2_with fail
  go_ret
  exact ⟨congrArg (fun s => Ending.returned (.string s)) (one_add _ _), hb⟩

theorem dig5f (a b c : UInt8) (w : World) : Calls Tryd.prog 56 #[.int .i64 5, .string ⟨#[a]⟩, .string ⟨#[b]⟩, .string ⟨#[c]⟩, .bool false] w (Tx [b] w) := by
  have sz := str_size []
  simp at sz
  go_enter Tryd.func56, Tryd.ntmps56
  go_wp2_with fail
  refine (dig0t a b c _).mono ?_
  rintro e w1 ⟨rfl, hb⟩
  go_wp2_with fail
  go_ret
  exact ⟨congrArg (fun s => Ending.returned (.string s)) (one_add _ _), hb⟩

theorem dig6t (a b c : UInt8) (w : World) : Calls Tryd.prog 56 #[.int .i64 6, .string ⟨#[a]⟩, .string ⟨#[b]⟩, .string ⟨#[c]⟩, .bool true] w (Tx [b, a] w) := by
  have sz := str_size [a]
  simp at sz
  go_enter Tryd.func56, Tryd.ntmps56
  go_wp2_with fail
  refine (dig1t a b c _).mono ?_
  rintro e w1 ⟨rfl, hb⟩
  go_wp2_with fail
  go_ret
  exact ⟨congrArg (fun s => Ending.returned (.string s)) (one_add _ _), hb⟩

theorem dig6f (a b c : UInt8) (w : World) : Calls Tryd.prog 56 #[.int .i64 6, .string ⟨#[a]⟩, .string ⟨#[b]⟩, .string ⟨#[c]⟩, .bool false] w (Tx [b, a] w) := by
  have sz := str_size [a]
  simp at sz
  go_enter Tryd.func56, Tryd.ntmps56
  go_wp2_with fail
  refine (dig1t a b c _).mono ?_
  rintro e w1 ⟨rfl, hb⟩
  go_wp2_with fail
  go_ret
  exact ⟨congrArg (fun s => Ending.returned (.string s)) (one_add _ _), hb⟩

theorem dig7t (a b c : UInt8) (w : World) : Calls Tryd.prog 56 #[.int .i64 7, .string ⟨#[a]⟩, .string ⟨#[b]⟩, .string ⟨#[c]⟩, .bool true] w (Tx [b, a, a] w) := by
  have sz := str_size [a, a]
  simp at sz
  go_enter Tryd.func56, Tryd.ntmps56
  go_wp2_with fail
  refine (dig2t a b c _).mono ?_
  rintro e w1 ⟨rfl, hb⟩
  go_wp2_with fail
  go_ret
  exact ⟨congrArg (fun s => Ending.returned (.string s)) (one_add _ _), hb⟩

theorem dig7f (a b c : UInt8) (w : World) : Calls Tryd.prog 56 #[.int .i64 7, .string ⟨#[a]⟩, .string ⟨#[b]⟩, .string ⟨#[c]⟩, .bool false] w (Tx [b, a, a] w) := by
  have sz := str_size [a, a]
  simp at sz
  go_enter Tryd.func56, Tryd.ntmps56
  go_wp2_with fail
  refine (dig2t a b c _).mono ?_
  rintro e w1 ⟨rfl, hb⟩
  go_wp2_with fail
  go_ret
  exact ⟨congrArg (fun s => Ending.returned (.string s)) (one_add _ _), hb⟩

theorem dig8t (a b c : UInt8) (w : World) : Calls Tryd.prog 56 #[.int .i64 8, .string ⟨#[a]⟩, .string ⟨#[b]⟩, .string ⟨#[c]⟩, .bool true] w (Tx [b, a, a, a] w) := by
  have sz := str_size [a, a, a]
  simp at sz
  go_enter Tryd.func56, Tryd.ntmps56
  go_wp2_with fail
  refine (dig3t a b c _).mono ?_
  rintro e w1 ⟨rfl, hb⟩
  go_wp2_with fail
  go_ret
  exact ⟨congrArg (fun s => Ending.returned (.string s)) (one_add _ _), hb⟩

theorem dig8f (a b c : UInt8) (w : World) : Calls Tryd.prog 56 #[.int .i64 8, .string ⟨#[a]⟩, .string ⟨#[b]⟩, .string ⟨#[c]⟩, .bool false] w (Tx [b, a, a, a] w) := by
  have sz := str_size [a, a, a]
  simp at sz
  go_enter Tryd.func56, Tryd.ntmps56
  go_wp2_with fail
  refine (dig3t a b c _).mono ?_
  rintro e w1 ⟨rfl, hb⟩
  go_wp2_with fail
  go_ret
  exact ⟨congrArg (fun s => Ending.returned (.string s)) (one_add _ _), hb⟩

theorem dig9t (a b c : UInt8) (w : World) : Calls Tryd.prog 56 #[.int .i64 9, .string ⟨#[a]⟩, .string ⟨#[b]⟩, .string ⟨#[c]⟩, .bool true] w (Tx [b, a, a, a, a] w) := by
  have sz := str_size [a, a, a, a]
  simp at sz
  go_enter Tryd.func56, Tryd.ntmps56
  go_wp2_with fail
  refine (dig4t a b c _).mono ?_
  rintro e w1 ⟨rfl, hb⟩
  go_wp2_with fail
  go_ret
  exact ⟨congrArg (fun s => Ending.returned (.string s)) (one_add _ _), hb⟩

theorem dig9f (a b c : UInt8) (w : World) : Calls Tryd.prog 56 #[.int .i64 9, .string ⟨#[a]⟩, .string ⟨#[b]⟩, .string ⟨#[c]⟩, .bool false] w (Tx [a, c] w) := by
  go_enter Tryd.func56, Tryd.ntmps56
  go_wp2_with fail
  go_ret
  exact ⟨congrArg (fun s => Ending.returned (.string s)) (one_add a [c]), Below.refl _ _⟩

theorem spec_digit (a b c : UInt8) (n : Nat) (h : n ≤ 9) (old : Bool) (w : World) : Calls Tryd.prog 56 #[.int .i64 n, .string ⟨#[a]⟩, .string ⟨#[b]⟩, .string ⟨#[c]⟩, .bool old] w (Tx (dgL a b c n old) w) := by
  have hn : n = 0 ∨ n = 1 ∨ n = 2 ∨ n = 3 ∨ n = 4 ∨ n = 5 ∨ n = 6 ∨ n = 7 ∨ n = 8 ∨ n = 9 := by omega
  rcases hn with rfl | rfl | rfl | rfl | rfl | rfl | rfl | rfl | rfl | rfl <;> cases old
  · exact dig0f a b c w
  · exact dig0t a b c w
  · exact dig1f a b c w
  · exact dig1t a b c w
  · exact dig2f a b c w
  · exact dig2t a b c w
  · exact dig3f a b c w
  · exact dig3t a b c w
  · exact dig4f a b c w
  · exact dig4t a b c w
  · exact dig5f a b c w
  · exact dig5t a b c w
  · exact dig6f a b c w
  · exact dig6t a b c w
  · exact dig7f a b c w
  · exact dig7t a b c w
  · exact dig8f a b c w
  · exact dig8t a b c w
  · exact dig9f a b c w
  · exact dig9t a b c w

theorem form_len (n : Nat) (h : n ≤ 3999) (old : Bool) : (formN n old).length ≤ 20 := by
  have key : ∀ (a b c : UInt8) (k : Nat), k ≤ 9 → (dgL a b c k old).length ≤ 5 := by
    intro a b c k hk
    unfold dgL dgo
    repeat' split
    all_goals simp
    all_goals omega
  have k1 := key 99 100 109 (n / 100 % 10) (by omega)
  have k2 := key 120 108 99 (n / 10 % 10) (by omega)
  have k3 := key 105 118 120 (n % 10) (by omega)
  unfold formN
  simp only [List.length_append, List.length_replicate]
  omega

set_option maxHeartbeats 1000000 in
theorem spec_form0 (n kt c2 d2 c3 d3 d4 : Nat) (l1 l2 l3 l : List UInt8) (old : Bool)
    (D1 : Hid (∀ w, Calls Tryd.prog 56 #[.int .i64 d2, .string ⟨#[99]⟩, .string ⟨#[100]⟩, .string ⟨#[109]⟩, .bool old] w (Tx l1 w)))
    (D2 : Hid (∀ w, Calls Tryd.prog 56 #[.int .i64 d3, .string ⟨#[120]⟩, .string ⟨#[108]⟩, .string ⟨#[99]⟩, .bool old] w (Tx l2 w)))
    (D3 : Hid (∀ w, Calls Tryd.prog 56 #[.int .i64 d4, .string ⟨#[105]⟩, .string ⟨#[118]⟩, .string ⟨#[120]⟩, .bool old] w (Tx l3 w)))
    (HF : Hid (List.replicate kt 109 ++ l1 ++ l2 ++ l3 = l))
    (k1 : l1.length ≤ 5) (k2 : l2.length ≤ 5) (k3 : l3.length ≤ 5) (_hn : n ≤ 3999) (hK : kt ≤ 3) (hc2 : c2 ≤ 39) (hc3 : c3 ≤ 399) (_hd2 : d2 ≤ 9) (_hd3 : d3 ≤ 9) (_hd4 : d4 ≤ 9)
    (q1 : (n : Int).tdiv 1000 = (kt : Int)) (q2 : (n : Int).tdiv 100 = (c2 : Int)) (q3 : (n : Int).tdiv 10 = (c3 : Int))
    (m2 : (c2 : Int).tmod 10 = (d2 : Int)) (m3 : (c3 : Int).tmod 10 = (d3 : Int)) (m4 : (n : Int).tmod 10 = (d4 : Int)) (w : World) :
    Calls Tryd.prog 38 #[.int .i64 n, .bool old] w (Tx l w) := by
  have s1 := str_size l1
  have s2 := str_size l2
  have s3 := str_size l3
  go_enter Tryd.func38, Tryd.ntmps38
  go_wp2_with fail
  go_loopg [5, 6] (kt) (fun m s i wr => ∃ k : Nat, k ≤ kt ∧ m = kt - k ∧ i = .int .i64 k ∧ s = .string (str (List.replicate k 109)) ∧ wr = w)
  case atStart => exact ⟨0, by omega, by omega, rfl, rfl, rfl⟩
  case round =>
    obtain ⟨k, hk, hm, rfl, rfl, rfl⟩ := hrel
    subst hm
    have sz := str_size (List.replicate k 109)
    rw [List.length_replicate] at sz
    by_cases hlt : k < kt
    · have hlt2 : (k : Int) < ((kt : Nat) : Int) := by omega
      go_wp2_with fail
      go_roundg (kt - (k + 1))
      case measure => omega
      case rel => exact ⟨k + 1, by omega, by omega, by go_num, by rw [show (⟨#[109]⟩ : ByteArray) = str [109] from rfl, str_add, List.replicate_succ'], rfl⟩
    · have e : k = kt := by omega
      subst e
      have hge : ¬ ((k : Int) < ((k : Nat) : Int)) := by omega
      go_wp2_with fail
      refine (D1.out _).mono ?_
      rintro e w1 ⟨rfl, b1⟩
      go_wp2_with fail
      refine (D2.out _).mono ?_
      rintro e w2 ⟨rfl, b2⟩
      go_wp2_with fail
      refine (D3.out _).mono ?_
      rintro e w3 ⟨rfl, b3⟩
      have bel := b1.trans ((b2.mono b1.size).trans (b3.mono (Nat.le_trans b1.size b2.size)))
      go_wp2_with fail
      go_ret
      exact ⟨congrArg (fun s => Ending.returned (.string (str s))) HF.out, bel⟩

theorem spec_form (n : Nat) (h : n ≤ 3999) (old : Bool) (w : World) : Calls Tryd.prog 38 #[.int .i64 n, .bool old] w (Tx (formN n old) w) := by
  have key : ∀ (a b c : UInt8) (k : Nat), k ≤ 9 → (dgL a b c k old).length ≤ 5 := by
    intro a b c k hk
    unfold dgL dgo
    repeat' split
    all_goals simp
    all_goals omega
  refine spec_form0 n (n / 1000) (n / 100) (n / 100 % 10) (n / 10) (n / 10 % 10) (n % 10) _ _ _ _ old
    (Lib.hid (spec_digit 99 100 109 (n / 100 % 10) (by omega) old)) (Lib.hid (spec_digit 120 108 99 (n / 10 % 10) (by omega) old)) (Lib.hid (spec_digit 105 118 120 (n % 10) (by omega) old))
    (Lib.hid rfl) (key 99 100 109 (n / 100 % 10) (by omega)) (key 120 108 99 (n / 10 % 10) (by omega)) (key 105 118 120 (n % 10) (by omega)) h (by omega) (by omega) (by omega) (by omega) (by omega) (by omega) ?_ ?_ ?_ ?_ ?_ ?_ w
  · rw [Int.tdiv_eq_ediv_of_nonneg (by omega)]; omega
  · rw [Int.tdiv_eq_ediv_of_nonneg (by omega)]; omega
  · rw [Int.tdiv_eq_ediv_of_nonneg (by omega)]; omega
  · rw [Int.tmod_eq_emod_of_nonneg (by omega)]; omega
  · rw [Int.tmod_eq_emod_of_nonneg (by omega)]; omega
  · rw [Int.tmod_eq_emod_of_nonneg (by omega)]; omega

theorem spec_isN (n : Int) (b : Bool) (h : decide (isN n) = b) (w : World) : Calls Tryd.prog 36 #[.int .i64 n] w fun e w' => e = .returned (.bool b) ∧ w = w' := by
  have I := Lib.hid (fun w => spec_in n 1 3999 w)
  have hb : inB n 1 3999 = b := by rw [← h]; exact decide_eq_decide.2 Iff.rfl
  rw [hb] at I
  clear h
  go_enter Tryd.func36, Tryd.ntmps36
  go_wp2_with fail
  refine (I.out _).mono ?_
  rintro e w1 ⟨rfl, rfl⟩
  go_wp2_with fail
  go_ret
  exact ⟨rfl, rfl⟩

theorem spec_NumeralText (n : Int) (w : World) : Calls Tryd.prog 24 #[.int .i64 n] w (Tx (ntL n) w) := by
  by_cases h : isN n
  · obtain ⟨m, rfl⟩ := Int.eq_ofNat_of_zero_le (show 0 ≤ n by have := h.1; omega)
    have I := Lib.hid (spec_isN m true (decide_eq_true h))
    have F := Lib.hid (spec_form m (by have := h.2; omega) false)
    rw [show ntL (m : Int) = formN m false from (if_pos h).trans (by unfold form; rw [Int.toNat_natCast])]
    clear h
    go_enter Tryd.func24, Tryd.ntmps24
    go_wp2_with fail
    refine (I.out _).mono ?_
    rintro e w1 ⟨rfl, rfl⟩
    go_wp2_with fail
    refine (F.out _).mono ?_
    rintro e w1 ⟨rfl, b1⟩
    go_wp2_with fail
    go_ret
    exact ⟨rfl, b1⟩
  · have I := Lib.hid (spec_isN n false (decide_eq_false h))
    rw [show ntL n = [] from if_neg h]
    clear h
    go_enter Tryd.func24, Tryd.ntmps24
    go_wp2_with fail
    refine (I.out _).mono ?_
    rintro e w1 ⟨rfl, rfl⟩
    go_wp2_with fail
    go_ret
    exact ⟨rfl, Below.refl _ _⟩

end Go.Proofs.YtiimoejjokfkfaaDoor.Num
