/- What the law on letters needs of a year and of a range of years. -/
import Derived.Test.YtegoiiconhgjbaaEasP
import Derived.Test.YtegoiiconhgjbaaEasX
namespace Go.Proofs.Ytegoiiconhgjbaa.Eas
open Go.RowKit
open Go.Proofs.Ytegoiiconhgjbaa.Ints (Rd Row)

theorem impl_OldDayE (y m d n : Int) (hv : Cal.valid false y m d) (hn : Cal.num false y m d = n) (w : World) : Calls Try.prog 30 #[.agg #[.int .i64 y, .int .i64 m, .int .i64 d]] w (Two n 0 w) := by
  have h := impl_OldDay y m d w
  rw [show dayNum false y m d = n by unfold dayNum; rw [if_pos hv]; exact hn, show dayErr false y m d = 0 from if_pos hv] at h
  exact h
theorem mlen_1 (f : Bool) (y : Int) : Cal.mlen f y 1 = 31 := by simp [Cal.mlen]
theorem let_day1 (y a : Int) (hy : isY y) (h0 : 0 ≤ a) (h1 : a ≤ 6) : Cal.valid false y 1 (1 + a) ∧ Cal.num false y 1 (1 + a) = Cal.ys false y + a := by
  refine ⟨⟨hy.1, hy.2, by omega, by omega, by omega, by rw [mlen_1]; omega⟩, ?_⟩
  unfold Cal.num; rw [Cal.cum_one]; omega
theorem let_day2 (y a : Int) (hy : isY y) (h0 : 0 ≤ a) (h1 : a ≤ 6) : Cal.valid false y 3 (1 + a) ∧ Cal.num false y 3 (1 + a) = Cal.ys false y + 59 + (if Cal.lp false y then 1 else 0) + a := by
  refine ⟨⟨hy.1, hy.2, by omega, by omega, by omega, by rw [mlen_3]; omega⟩, ?_⟩
  have c := cum_3 false y
  unfold Cal.num; omega

theorem let_pack (y : Int) : ∃ a b e g : Int, Hid (∀ w, Calls Try.prog 20 #[.int .i64 y] w (Three a b e w)) ∧ Hid (∀ w, Calls Try.prog 21 #[.int .i64 y] w (Three a b e w)) ∧
    Hid (∀ w, Calls Try.prog 22 #[.int .i64 y] w (Two g e w)) ∧ Hid (∀ w, Calls Try.prog 23 #[.int .i64 y] w (Two g e w)) ∧
    Hid ((e = 0 ∧ 0 ≤ a ∧ a ≤ 6 ∧ 0 ≤ b ∧ b ≤ 6 ∧ 1 ≤ g ∧ g ≤ 19 ∧ ∃ x z : Int, Hid (∀ w, Calls Try.prog 30 #[.agg #[.int .i64 y, .int .i64 1, .int .i64 (1 + a)]] w (Two x 0 w)) ∧
      Hid (∀ w, Calls Try.prog 30 #[.agg #[.int .i64 y, .int .i64 3, .int .i64 (1 + (b + 4) % 7)]] w (Two z 0 w)) ∧ Hid (∀ w, Calls Try.prog 31 #[.int .i64 x] w (Two 6 0 w)) ∧ Hid (∀ w, Calls Try.prog 31 #[.int .i64 z] w (Two 6 0 w))) ∨ e = 2) := by
  refine ⟨letA y, letB y, yErr y, goldN y, Lib.hid (impl_SundayLetters y), Lib.hid (spec_SundayLetters y), Lib.hid (impl_GoldenNumber y), Lib.hid (spec_GoldenNumber y), Lib.hid ?_⟩
  by_cases h : isY y
  · refine .inl ?_
    have eA : letA y = 6 - (Cal.ys false y + 5) % 7 := if_pos h
    have eB : letB y = if Cal.lp false y then (6 - (Cal.ys false y + 5) % 7 + 6) % 7 else 6 - (Cal.ys false y + 5) % 7 := if_pos h
    have eG : goldN y = y % 19 + 1 := if_pos h
    have eE : yErr y = 0 := if_pos h
    obtain ⟨-, k2, k3⟩ := wk_ys y h
    have hA : 0 ≤ letA y ∧ letA y ≤ 6 := by omega
    have hB : 0 ≤ letB y ∧ letB y ≤ 6 := by rw [eB]; split <;> omega
    obtain ⟨v1, n1⟩ := let_day1 y (letA y) h hA.1 hA.2
    obtain ⟨v2, n2⟩ := let_day2 y ((letB y + 4) % 7) h (by omega) (by omega)
    have r1 := Cal.num_range false v1
    have r2 := Cal.num_range false v2
    rw [Cal.ys_1, Cal.ys_2001] at r1 r2
    simp at r1 r2
    refine ⟨eE, hA.1, hA.2, hB.1, hB.2, by omega, by omega, Cal.num false y 1 (1 + letA y), Cal.num false y 3 (1 + (letB y + 4) % 7), Lib.hid (impl_OldDayE y 1 (1 + letA y) _ v1 rfl), Lib.hid (impl_OldDayE y 3 (1 + (letB y + 4) % 7) _ v2 rfl),
      Lib.hid (impl_Sunday _ (by omega) (by omega) ?_), Lib.hid (impl_Sunday _ (by omega) (by omega) ?_)⟩
    · rw [n1, eA]; omega
    · rw [n2, eB]; split <;> omega
  · exact .inr (if_neg h)

theorem ints_pack (m d f t : Int) : ∃ (V : List Int) (E : Int), Hid (V.length ≤ 2000000) ∧ Hid (∀ w, Calls Try.prog 25 #[.int .i64 m, .int .i64 d, .int .i64 f, .int .i64 t] w (IntsOut V E w)) ∧
    Hid (∀ w, Calls Try.prog 26 #[.int .i64 m, .int .i64 d, .int .i64 f, .int .i64 t] w (IntsOut V E w)) ∧
    Hid ((E = 0 ∧ Hid (∀ x ∈ V, ∃ o : Int, Hid (∀ w, Calls Try.prog 28 #[.int .i64 x] w (Two o 0 w)) ∧ Hid (∀ w, Calls Try.prog 29 #[.int .i64 o] w (DateC x m d w)))) ∨ E = 2) := by
  refine ⟨ywL m d f t, ywE m d f t, Lib.hid (ywL_len m d f t), Lib.hid (impl_YearsWithEaster m d f t), Lib.hid (spec_YearsWithEaster m d f t), Lib.hid ?_⟩
  by_cases h : ywOk m d f t
  · refine .inl ⟨if_pos h, Lib.hid fun x hx => ?_⟩
    rw [show ywL m d f t = yw m d f (t - f + 1).toNat from if_pos h] at hx
    obtain ⟨h1, h2, rfl, rfl⟩ := yw_mem m d f _ x hx
    obtain ⟨hf, h3, h4, h5, -⟩ := h
    have hy : isY x := ⟨by have := hf.1; omega, by omega⟩
    refine ⟨oE x, Lib.hid fun w => ?_, Lib.hid (impl_OldDateE x hy)⟩
    have k := impl_OldEaster x w
    rw [show oldN x = oE x from if_pos hy, show yErr x = 0 from if_pos hy] at k
    exact k
  · exact .inr (if_neg h)

end Go.Proofs.Ytegoiiconhgjbaa.Eas
