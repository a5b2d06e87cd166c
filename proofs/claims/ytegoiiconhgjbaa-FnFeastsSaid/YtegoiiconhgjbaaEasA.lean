/- Contracts and walks of the golden number, the Sunday letters and the Easter term, of impl and of spec. -/
import Derived.Test.YtegoiiconhgjbaaDaysE
import Derived.Test.YtegoiiconhgjbaaSt
import Derived.Test.YtegoiiconhgjbaaEasM
import Derived.OwnWalk
namespace Go.Proofs.Ytegoiiconhgjbaa.Eas
open Go.RowKit

def goldN (y : Int) : Int := if isY y then y % 19 + 1 else 0
def yErr (y : Int) : Int := if isY y then 0 else 2
def letA (y : Int) : Int := if isY y then 6 - (Cal.ys false y + 5) % 7 else 0
def letB (y : Int) : Int := if isY y then (if Cal.lp false y then (6 - (Cal.ys false y + 5) % 7 + 6) % 7 else 6 - (Cal.ys false y + 5) % 7) else 0
def termN (y : Int) : Int := if isY y then Cal.num false y 3 21 + delay y else 0
def Three (a b c : Int) (w : World) (e : Ending) (w' : World) : Prop := e = .returned (.tuple #[.int .i64 a, .int .i64 b, .int .i64 c]) ∧ Below w.heap.size w w'
theorem ret_iii {a b c a' b' c' : Int} (h : a = a') (h1 : b = b') (h2 : c = c') : Ending.returned (.tuple #[.int .i64 a, .int .i64 b, .int .i64 c]) = .returned (.tuple #[.int .i64 a', .int .i64 b', .int .i64 c']) := by rw [h, h1, h2]

set_option maxHeartbeats 400000 in
theorem spec_year (y : Int) (b : Bool) (h : inB y 1 2000 = b) (w : World) :
    Calls Try.prog 73 #[.int .i64 y] w fun e w' => e = .returned (.bool b) ∧ w = w' := by
  subst h
  go_enter Try.func73, Try.ntmps73
  go_wp2_with (go_at_call 81; refine (spec_in _ _ _ _).mono ?_; rintro e w' ⟨rfl, rfl⟩)
  go_ret
  exact ⟨rfl, rfl⟩
theorem spec_year_yes (y : Int) (h : isY y) (w : World) : Calls Try.prog 73 #[.int .i64 y] w fun e w' => e = .returned (.bool true) ∧ w = w' := spec_year y true (inB_true h) w
theorem spec_year_no (y : Int) (h : ¬ isY y) (w : World) : Calls Try.prog 73 #[.int .i64 y] w fun e w' => e = .returned (.bool false) ∧ w = w' := spec_year y false (inB_false h) w

/-! ### the golden number -/
set_option maxHeartbeats 400000 in
theorem impl_GoldenNumber (y : Int) (w : World) : Calls Try.prog 22 #[.int .i64 y] w (Two (goldN y) (yErr y) w) := by
  by_cases hy : isY y
  · have H := Lib.hid (show y % 19 + 1 = goldN y ∧ 0 = yErr y by simp [goldN, yErr, hy])
    have Y := Lib.hid (impl_year_yes y hy.1 hy.2)
    obtain ⟨h1, h2⟩ := hy
    go_enter Try.func22, Try.ntmps22
    go_wp2_with fail
    refine (Y.out _).mono ?_
    rintro e w1 ⟨rfl, rfl⟩
    go_wp2_with fail
    go_ret2
    exact ⟨ret_ii H.out.1 H.out.2, Below.refl _ _⟩
  · have H := Lib.hid (show 0 = goldN y ∧ 2 = yErr y by simp [goldN, yErr, hy])
    have Y := Lib.hid (impl_year_no y hy)
    clear hy
    go_enter Try.func22, Try.ntmps22
    go_wp2_with fail
    refine (Y.out _).mono ?_
    rintro e w1 ⟨rfl, rfl⟩
    go_wp2_with fail
    go_ret2
    exact ⟨ret_ii H.out.1 H.out.2, Below.refl _ _⟩

set_option maxHeartbeats 400000 in
theorem spec_GoldenNumber (y : Int) (w : World) : Calls Try.prog 23 #[.int .i64 y] w (Two (goldN y) (yErr y) w) := by
  by_cases hy : isY y
  · have H := Lib.hid (show y % 19 + 1 = goldN y ∧ 0 = yErr y by simp [goldN, yErr, hy])
    have Y := Lib.hid (spec_year_yes y hy)
    obtain ⟨h1, h2⟩ := hy
    go_enter Try.func23, Try.ntmps23
    go_wp2_with fail
    refine (Y.out _).mono ?_
    rintro e w1 ⟨rfl, rfl⟩
    go_wp2_with fail
    go_ret2
    exact ⟨ret_ii H.out.1 H.out.2, Below.refl _ _⟩
  · have H := Lib.hid (show 0 = goldN y ∧ 2 = yErr y by simp [goldN, yErr, hy])
    have Y := Lib.hid (spec_year_no y hy)
    clear hy
    go_enter Try.func23, Try.ntmps23
    go_wp2_with fail
    refine (Y.out _).mono ?_
    rintro e w1 ⟨rfl, rfl⟩
    go_wp2_with fail
    go_ret2
    exact ⟨ret_ii H.out.1 H.out.2, Below.refl _ _⟩

/-! ### the Sunday letters -/
theorem wk_ys (y : Int) (h : isY y) : wkNum (Cal.ys false y) = (Cal.ys false y + 5) % 7 ∧ 0 ≤ Cal.ys false y ∧ Cal.ys false y ≤ 730499 := by
  have b := Cal.ys_bd false y h.1 (by have := h.2; omega)
  have c := Cal.ys_mono false y 2001 (by have := h.2; omega)
  rw [Cal.ys_2001] at c
  have e : Cal.ys false y ≤ 730499 := by have := h.2; simp at c; omega
  exact ⟨by simp [wkNum, b.1, e], b.1, e⟩

set_option maxHeartbeats 400000 in
theorem impl_SundayLetters (y : Int) (w : World) : Calls Try.prog 20 #[.int .i64 y] w (Three (letA y) (letB y) (yErr y) w) := by
  by_cases hy : isY y
  · obtain ⟨k1, k2, k3⟩ := wk_ys y hy
    have Y := Lib.hid (impl_year_yes y hy.1 hy.2)
    have A1 := Lib.hid (impl_ys false y hy.1 (by have := hy.2; omega))
    have A2 := Lib.hid (impl_WeekdayOf (Cal.ys false y))
    have A3 := Lib.hid (impl_leap false y (by have := hy.1; omega))
    rw [k1] at A2
    have hB : 0 ≤ (Cal.ys false y + 5) % 7 ∧ (Cal.ys false y + 5) % 7 ≤ 6 := by omega
    have H : 6 - (Cal.ys false y + 5) % 7 = letA y ∧ (if Cal.lp false y then (6 - (Cal.ys false y + 5) % 7 + 6) % 7 else 6 - (Cal.ys false y + 5) % 7) = letB y ∧ 0 = yErr y := by simp [letA, letB, yErr, hy]
    clear hy k1
    generalize (Cal.ys false y + 5) % 7 = a at A2 H hB
    obtain ⟨hB1, hB2⟩ := hB
    cases hl : Cal.lp false y
    · rw [hl] at A3 H
      have HE := Lib.hid (show 6 - a = letA y ∧ 6 - a = letB y ∧ 0 = yErr y by simpa using H)
      clear H hl
      go_enter Try.func20, Try.ntmps20
      go_wp2_with fail
      refine (Y.out _).mono ?_
      rintro e w1 ⟨rfl, rfl⟩
      go_wp2_with fail
      refine (A1.out _).mono ?_
      rintro e w1 ⟨rfl, rfl⟩
      go_wp2_with fail
      refine (A2.out _).mono ?_
      rintro e w2 ⟨rfl, hb⟩
      go_wp2_with fail
      refine (A3.out _).mono ?_
      rintro e w3 ⟨rfl, rfl⟩
      go_wp2_with fail
      go_ret3
      exact ⟨ret_iii HE.out.1 HE.out.2.1 HE.out.2.2, hb⟩
    · rw [hl] at A3 H
      have HE := Lib.hid (show 6 - a = letA y ∧ (6 - a + 6) % 7 = letB y ∧ 0 = yErr y by simpa using H)
      clear H hl
      go_enter Try.func20, Try.ntmps20
      go_wp2_with fail
      refine (Y.out _).mono ?_
      rintro e w1 ⟨rfl, rfl⟩
      go_wp2_with fail
      refine (A1.out _).mono ?_
      rintro e w1 ⟨rfl, rfl⟩
      go_wp2_with fail
      refine (A2.out _).mono ?_
      rintro e w2 ⟨rfl, hb⟩
      go_wp2_with fail
      refine (A3.out _).mono ?_
      rintro e w3 ⟨rfl, rfl⟩
      go_wp2_with fail
      go_ret3
      exact ⟨ret_iii HE.out.1 HE.out.2.1 HE.out.2.2, hb⟩
  · have H := Lib.hid (show 0 = letA y ∧ 0 = letB y ∧ 2 = yErr y by simp [letA, letB, yErr, hy])
    have Y := Lib.hid (impl_year_no y hy)
    clear hy
    go_enter Try.func20, Try.ntmps20
    go_wp2_with fail
    refine (Y.out _).mono ?_
    rintro e w1 ⟨rfl, rfl⟩
    go_wp2_with fail
    go_ret3
    exact ⟨ret_iii H.out.1 H.out.2.1 H.out.2.2, Below.refl _ _⟩

set_option maxHeartbeats 400000 in
theorem spec_weekday (n : Int) (h1 : 0 ≤ n) (h2 : n ≤ 1000000) (w : World) :
    Calls Try.prog 74 #[.int .i64 n] w fun e w' => e = .returned (.int .i64 ((n + 5) % 7)) ∧ w = w' := by
  go_enter Try.func74, Try.ntmps74
  go_wp2
  go_ret
  exact ⟨rfl, rfl⟩

theorem num_11 (y : Int) : Cal.num false y 1 1 = Cal.ys false y := by unfold Cal.num; rw [Cal.cum_one]; omega

set_option maxHeartbeats 400000 in
theorem spec_SundayLetters (y : Int) (w : World) : Calls Try.prog 21 #[.int .i64 y] w (Three (letA y) (letB y) (yErr y) w) := by
  by_cases hy : isY y
  · obtain ⟨-, k2, k3⟩ := wk_ys y hy
    have Y := Lib.hid (spec_year_yes y hy)
    have A1 := Lib.hid (spec_number false y 1 1 hy.1 (by have := hy.2; omega) (by omega) (by omega) (by omega) (by omega))
    rw [num_11] at A1
    have A2 := Lib.hid (spec_weekday (Cal.ys false y) k2 (by omega))
    have A3 := Lib.hid (spec_leap false y (by have := hy.1; omega))
    have hB : 0 ≤ (Cal.ys false y + 5) % 7 ∧ (Cal.ys false y + 5) % 7 ≤ 6 := by omega
    have H : 6 - (Cal.ys false y + 5) % 7 = letA y ∧ (if Cal.lp false y then (6 - (Cal.ys false y + 5) % 7 + 6) % 7 else 6 - (Cal.ys false y + 5) % 7) = letB y ∧ 0 = yErr y := by simp [letA, letB, yErr, hy]
    clear hy
    generalize (Cal.ys false y + 5) % 7 = a at A2 H hB
    obtain ⟨hB1, hB2⟩ := hB
    cases hl : Cal.lp false y
    · rw [hl] at A3 H
      have HE := Lib.hid (show 6 - a = letA y ∧ 6 - a = letB y ∧ 0 = yErr y by simpa using H)
      clear H hl
      go_enter Try.func21, Try.ntmps21
      go_wp2_with fail
      refine (Y.out _).mono ?_
      rintro e w1 ⟨rfl, rfl⟩
      go_wp2_with fail
      refine (A1.out _).mono ?_
      rintro e w1 ⟨rfl, hb⟩
      go_wp2_with fail
      refine (A2.out _).mono ?_
      rintro e w2 ⟨rfl, rfl⟩
      go_wp2_with fail
      refine (A3.out _).mono ?_
      rintro e w3 ⟨rfl, rfl⟩
      go_wp2_with fail
      go_ret3
      exact ⟨ret_iii HE.out.1 HE.out.2.1 HE.out.2.2, hb⟩
    · rw [hl] at A3 H
      have HE := Lib.hid (show 6 - a = letA y ∧ (6 - a + 6) % 7 = letB y ∧ 0 = yErr y by simpa using H)
      clear H hl
      go_enter Try.func21, Try.ntmps21
      go_wp2_with fail
      refine (Y.out _).mono ?_
      rintro e w1 ⟨rfl, rfl⟩
      go_wp2_with fail
      refine (A1.out _).mono ?_
      rintro e w1 ⟨rfl, hb⟩
      go_wp2_with fail
      refine (A2.out _).mono ?_
      rintro e w2 ⟨rfl, rfl⟩
      go_wp2_with fail
      refine (A3.out _).mono ?_
      rintro e w3 ⟨rfl, rfl⟩
      go_wp2_with fail
      go_ret3
      exact ⟨ret_iii HE.out.1 HE.out.2.1 HE.out.2.2, hb⟩
  · have H := Lib.hid (show 0 = letA y ∧ 0 = letB y ∧ 2 = yErr y by simp [letA, letB, yErr, hy])
    have Y := Lib.hid (spec_year_no y hy)
    clear hy
    go_enter Try.func21, Try.ntmps21
    go_wp2_with fail
    refine (Y.out _).mono ?_
    rintro e w1 ⟨rfl, rfl⟩
    go_wp2_with fail
    go_ret3
    exact ⟨ret_iii H.out.1 H.out.2.1 H.out.2.2, Below.refl _ _⟩

/-! ### the Easter term -/
set_option maxHeartbeats 400000 in
theorem impl_moonDelay (y : Int) (h1 : 0 ≤ y) (w : World) :
    Calls Try.prog 116 #[.int .i64 y] w fun e w' => e = .returned (.int .i64 (delay y)) ∧ w = w' := by
  go_enter Try.func116, Try.ntmps116
  go_wp2
  go_ret
  exact ⟨ret_int (by unfold delay; omega), rfl⟩

set_option maxHeartbeats 400000 in
theorem impl_oldDayOf (y m d : Int) (hv : Cal.valid false y m d) (w : World) : Calls Try.prog 115 #[.int .i64 y, .int .i64 m, .int .i64 d] w fun e w' => e = .returned (.int .i64 (Cal.num false y m d)) ∧ Below w.heap.size w w' := by
  have A1 := Lib.hid (show ∀ w, Calls Try.prog 86 #[.agg #[.int .i64 y, .int .i64 m, .int .i64 d], .int .i64 0] w (Two (Cal.num false y m d) 0 w) from impl_number false y m d hv)
  clear hv
  generalize Cal.num false y m d = n at *
  go_enter Try.func115, Try.ntmps115
  go_wp2_with fail
  refine (A1.out _).mono ?_
  rintro e w1 ⟨rfl, hb⟩
  go_wp2_with fail
  go_ret
  exact ⟨rfl, hb⟩

set_option maxHeartbeats 400000 in
theorem impl_EasterTerm (y : Int) (w : World) : Calls Try.prog 60 #[.int .i64 y] w (Two (termN y) (yErr y) w) := by
  by_cases hy : isY y
  · have H := Lib.hid (show Cal.num false y 3 21 + delay y = termN y ∧ 0 = yErr y by simp [termN, yErr, hy])
    have Y := Lib.hid (impl_year_yes y hy.1 hy.2)
    have A1 := Lib.hid (impl_oldDayOf y 3 21 (valid_321 y hy))
    have A2 := Lib.hid (impl_moonDelay y (by have := hy.1; omega))
    obtain ⟨b1, b2⟩ := num_321 y hy
    obtain ⟨b3, b4⟩ := delay_bd y
    clear hy
    generalize Cal.num false y 3 21 = n at *
    generalize delay y = p at *
    go_enter Try.func60, Try.ntmps60
    go_wp2_with fail
    refine (Y.out _).mono ?_
    rintro e w1 ⟨rfl, rfl⟩
    go_wp2_with fail
    refine (A1.out _).mono ?_
    rintro e w2 ⟨rfl, hb⟩
    go_wp2_with fail
    refine (A2.out _).mono ?_
    rintro e w3 ⟨rfl, rfl⟩
    go_wp2_with fail
    go_ret2
    exact ⟨ret_ii H.out.1 H.out.2, hb⟩
  · have H := Lib.hid (show 0 = termN y ∧ 2 = yErr y by simp [termN, yErr, hy])
    have Y := Lib.hid (impl_year_no y hy)
    clear hy
    go_enter Try.func60, Try.ntmps60
    go_wp2_with fail
    refine (Y.out _).mono ?_
    rintro e w1 ⟨rfl, rfl⟩
    go_wp2_with fail
    go_ret2
    exact ⟨ret_ii H.out.1 H.out.2, Below.refl _ _⟩

set_option maxHeartbeats 400000 in
theorem spec_EasterTerm (y : Int) (w : World) : Calls Try.prog 59 #[.int .i64 y] w (Two (termN y) (yErr y) w) := by
  by_cases hy : isY y
  · have H := Lib.hid (show Cal.num false y 3 21 + (19 * (y % 19) + 15) % 30 = termN y ∧ 0 = yErr y by simp [termN, yErr, hy, delay])
    have Y := Lib.hid (spec_year_yes y hy)
    have A1 := Lib.hid (spec_number false y 3 21 hy.1 (by have := hy.2; omega) (by omega) (by omega) (by omega) (by omega))
    obtain ⟨b1, b2⟩ := num_321 y hy
    obtain ⟨h1, h2⟩ := hy
    generalize Cal.num false y 3 21 = n at *
    go_enter Try.func59, Try.ntmps59
    go_wp2_with fail
    refine (Y.out _).mono ?_
    rintro e w1 ⟨rfl, rfl⟩
    go_wp2_with fail
    refine (A1.out _).mono ?_
    rintro e w2 ⟨rfl, hb⟩
    go_wp2_with fail
    go_ret2
    exact ⟨ret_ii H.out.1 H.out.2, hb⟩
  · have H := Lib.hid (show 0 = termN y ∧ 2 = yErr y by simp [termN, yErr, hy])
    have Y := Lib.hid (spec_year_no y hy)
    clear hy
    go_enter Try.func59, Try.ntmps59
    go_wp2_with fail
    refine (Y.out _).mono ?_
    rintro e w1 ⟨rfl, rfl⟩
    go_wp2_with fail
    go_ret2
    exact ⟨ret_ii H.out.1 H.out.2, Below.refl _ _⟩

end Go.Proofs.Ytegoiiconhgjbaa.Eas
