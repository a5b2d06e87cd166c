/- The contract of impl's YearsWithEaster. -/
import Derived.Test.YtegoiiconhgjbaaEasZ
namespace Go.Proofs.Ytegoiiconhgjbaa.Eas
open Go.RowKit
open Go.Proofs.Ytegoiiconhgjbaa.Ints (Rd Row Own append_int append_intG)

set_option maxHeartbeats 400000 in
theorem impl_leapDay (m d : Int) (w : World) : Calls Try.prog 79 #[.int .i64 m, .int .i64 d] w (Bl (vb false 4 m d) w) := by
  have V := Lib.hid (impl_IsOldDate 4 m d)
  go_enter Try.func79, Try.ntmps79
  go_wp2_with fail
  refine (V.out _).mono ?_
  rintro e w1 ⟨rfl, hb⟩
  go_wp2_with fail
  go_ret
  exact ⟨rfl, hb⟩

set_option maxRecDepth 10000 in
set_option maxHeartbeats 4000000 in
theorem impl_YearsWithEaster_yes (m d f t : Int) (h : ywOk m d f t) (w : World) : Calls Try.prog 25 #[.int .i64 m, .int .i64 d, .int .i64 f, .int .i64 t] w (IntsOut (yw m d f (t - f + 1).toNat) 0 w) := by
  obtain ⟨hf, h1, h2, h3, hv⟩ := h
  have Y := Lib.hid (impl_year_yes f hf.1 hf.2)
  have T := Lib.hid (impl_year_yes t (by have := hf.1; omega) h2)
  obtain ⟨f1, f2⟩ := hf
  have V := Lib.hid (impl_leapDay m d)
  rw [vb_true hv] at V
  obtain ⟨N, hN⟩ : ∃ N : Nat, (t - f + 1).toNat = N := ⟨_, rfl⟩
  have hN2 : t - f + 1 = N := by omega
  have hN3 : N ≤ 601 := by omega
  rw [hN]
  clear hv hN
  go_enter Try.func25, Try.ntmps25
  go_wp2_with fail
  refine (Y.out _).mono ?_
  rintro e w1 ⟨rfl, rfl⟩
  go_wp2_with fail
  refine (T.out _).mono ?_
  rintro e w1 ⟨rfl, rfl⟩
  go_wp2_with fail
  refine (V.out _).mono ?_
  rintro e w1 ⟨rfl, hb⟩
  go_wp2_with fail
  go_loopg [10, 11] N (fun k v i wr => YLoop m d f N w k v i wr)
  case atStart => exact ⟨0, [], by simp, by omega, by omega, Lib.hid rfl, by simp, Own.nil w1 w.heap.size, hb⟩
  case round =>
    obtain ⟨n, acc, rfl, hk, hn, HA, hl, hown, hb2⟩ := hrel
    subst hk
    by_cases hlt : n < N
    · have P := Lib.hid (impl_oldDate (f + n) ⟨by omega, by omega⟩)
      have HB := Lib.hid (And.intro hN2 h3)
      obtain ⟨y, hy⟩ : ∃ y, f + (n : Int) = y := ⟨_, rfl⟩
      have Hy := Lib.hid hy.symm
      have by1 : 1 ≤ y ∧ y ≤ 2000 := by omega
      have by2 : y ≤ t := by omega
      rw [hy] at P ⊢
      obtain ⟨M, hM⟩ : ∃ M, oM y = M := ⟨_, rfl⟩
      obtain ⟨D, hD⟩ : ∃ D, oD y = D := ⟨_, rfl⟩
      rw [hM, hD] at P
      obtain ⟨by3, by4⟩ := by1
      by_cases hc : M = m ∧ D = d
      · obtain ⟨rfl, rfl⟩ := hc
        have HN := Lib.hid (yw_yes HA.out hy.symm hM hD)
        clear hM hD HA
        go_wp2_with fail
        refine (P.out _).mono ?_
        rintro e w2 ⟨rfl, hb3⟩
        have HO := (hown.below hb3).below ((Below.refl _ _).alloc (Nat.le_refl _) (.cells #[.int .i64 y, .int .i64 M, .int .i64 D] 36))
        have hb4 := (hb2.trans (hb3.mono hb2.size)).alloc (by have := hb2.size; have := hb3.size; omega) (.cells #[.int .i64 y, .int .i64 M, .int .i64 D] 36)
        go_wp2_with (at_builtin; refine append_intG (by simp) hb4 HO (by omega) rfl (.tmp 54) (.tmp 56) rfl rfl rfl ?_)
        intro v4 w4 own4 hb5
        clear HO hb4 hown hb3 hb2
        go_wp2_with fail
        go_roundg (N - (n + 1))
        case measure => omega
        case rel => exact ⟨n + 1, _, by rw [← hy]; push_cast; rw [Int.add_assoc], by omega, by omega, HN, by simp; omega, own4, hb5⟩
      · have HN := Lib.hid (yw_no HA.out hy.symm (fun h => hc ⟨hM.symm.trans h.1, hD.symm.trans h.2⟩))
        clear hM hD HA
        by_cases hM : M = m
        · have hD : (D == d) = false := by
            have : ¬ D = d := fun h => hc ⟨hM, h⟩
            simpa using this
          subst hM
          clear hc
          go_wp2_with fail
          refine (P.out _).mono ?_
          rintro e w2 ⟨rfl, hb3⟩
          have HO := (hown.below hb3).below ((Below.refl _ _).alloc (Nat.le_refl _) (.cells #[.int .i64 y, .int .i64 M, .int .i64 D] 36))
          have hb4 := (hb2.trans (hb3.mono hb2.size)).alloc (by have := hb2.size; have := hb3.size; omega) (.cells #[.int .i64 y, .int .i64 M, .int .i64 D] 36)
          go_wp2_with fail
          go_roundg (N - (n + 1))
          case measure => omega
          case rel => exact ⟨n + 1, _, by rw [← hy]; push_cast; rw [Int.add_assoc], by omega, by omega, HN, by omega, HO, hb4⟩
        · have hE : (M == m) = false := by simpa using hM
          clear hM hc
          go_wp2_with fail
          refine (P.out _).mono ?_
          rintro e w2 ⟨rfl, hb3⟩
          have HO := (hown.below hb3).below ((Below.refl _ _).alloc (Nat.le_refl _) (.cells #[.int .i64 y, .int .i64 M, .int .i64 D] 36))
          have hb4 := (hb2.trans (hb3.mono hb2.size)).alloc (by have := hb2.size; have := hb3.size; omega) (.cells #[.int .i64 y, .int .i64 M, .int .i64 D] 36)
          go_wp2_with fail
          go_roundg (N - (n + 1))
          case measure => omega
          case rel => exact ⟨n + 1, _, by rw [← hy]; push_cast; rw [Int.add_assoc], by omega, by omega, HN, by omega, HO, hb4⟩
    · have e : n = N := by omega
      subst e
      have HV := HA.out
      have ht : ¬ f + (n : Int) ≤ t := by omega
      clear HA
      go_wp2_with fail
      go_ret2
      rw [← HV]
      exact IntsOut.of hown hb2

set_option maxHeartbeats 4000000 in
theorem impl_YearsWithEaster_no (m d f t : Int) (h : ¬ ywOk m d f t) (w : World) : Calls Try.prog 25 #[.int .i64 m, .int .i64 d, .int .i64 f, .int .i64 t] w (IntsOut [] 2 w) := by
  rcases yw_no_ok h with hf | ⟨hf, hr⟩ | ⟨hf, h1, h2, h3, hv⟩
  · have Y := Lib.hid (impl_year_no f hf)
    clear h hf
    go_enter Try.func25, Try.ntmps25
    go_wp2_with fail
    refine (Y.out _).mono ?_
    rintro e w1 ⟨rfl, rfl⟩
    go_wp2_with fail
    go_ret2
    exact IntsOut.empty (Below.refl _ _)
  · have Y := Lib.hid (impl_year_yes f hf.1 hf.2)
    obtain ⟨f1, f2⟩ := hf
    by_cases hT : 1 ≤ t ∧ t ≤ 2000
    · have T := Lib.hid (impl_year_yes t hT.1 hT.2)
      have W1 : IntKind.i64.wrap (t - f) = t - f := IntWalk.i64_in _ ⟨by omega, by omega⟩
      by_cases hlt : t < f
      · have hd : decide (t < f) = true := by simpa using hlt
        clear h hr hT
        go_enter Try.func25, Try.ntmps25
        go_wp2_with fail
        refine (Y.out _).mono ?_
        rintro e w1 ⟨rfl, rfl⟩
        go_wp2_with fail
        refine (T.out _).mono ?_
        rintro e w1 ⟨rfl, rfl⟩
        go_wp2_with fail
        go_ret2
        exact IntsOut.empty (Below.refl _ _)
      · have hgt : t - f > 600 := by omega
        clear h hr hT
        go_enter Try.func25, Try.ntmps25
        go_wp2_with fail
        refine (Y.out _).mono ?_
        rintro e w1 ⟨rfl, rfl⟩
        go_wp2_with fail
        refine (T.out _).mono ?_
        rintro e w1 ⟨rfl, rfl⟩
        go_wp2_with fail
        go_ret2
        exact IntsOut.empty (Below.refl _ _)
    · have T := Lib.hid (impl_year_no t hT)
      clear h hr hT
      go_enter Try.func25, Try.ntmps25
      go_wp2_with fail
      refine (Y.out _).mono ?_
      rintro e w1 ⟨rfl, rfl⟩
      go_wp2_with fail
      refine (T.out _).mono ?_
      rintro e w1 ⟨rfl, rfl⟩
      go_wp2_with fail
      go_ret2
      exact IntsOut.empty (Below.refl _ _)
  · have Y := Lib.hid (impl_year_yes f hf.1 hf.2)
    have T := Lib.hid (impl_year_yes t (by have := hf.1; omega) h2)
    obtain ⟨f1, f2⟩ := hf
    have V := Lib.hid (impl_leapDay m d)
    rw [vb_false hv] at V
    clear h hv
    go_enter Try.func25, Try.ntmps25
    go_wp2_with fail
    refine (Y.out _).mono ?_
    rintro e w1 ⟨rfl, rfl⟩
    go_wp2_with fail
    refine (T.out _).mono ?_
    rintro e w1 ⟨rfl, rfl⟩
    go_wp2_with fail
    refine (V.out _).mono ?_
    rintro e w1 ⟨rfl, hb⟩
    go_wp2_with fail
    go_ret2
    exact IntsOut.empty hb

theorem impl_YearsWithEaster (m d f t : Int) (w : World) : Calls Try.prog 25 #[.int .i64 m, .int .i64 d, .int .i64 f, .int .i64 t] w (IntsOut (ywL m d f t) (ywE m d f t) w) := by
  by_cases h : ywOk m d f t
  · rw [show ywL m d f t = yw m d f (t - f + 1).toNat from if_pos h, show ywE m d f t = 0 from if_pos h]
    exact impl_YearsWithEaster_yes m d f t h w
  · rw [show ywL m d f t = [] from if_neg h, show ywE m d f t = 2 from if_neg h]
    exact impl_YearsWithEaster_no m d f t h w

end Go.Proofs.Ytegoiiconhgjbaa.Eas
