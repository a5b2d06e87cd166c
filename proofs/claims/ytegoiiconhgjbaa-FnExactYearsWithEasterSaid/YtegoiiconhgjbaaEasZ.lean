/- Contracts of spec's and impl's YearsWithEaster. -/
import Derived.Test.YtegoiiconhgjbaaEasG
import Derived.Test.YtegoiiconhgjbaaEasY
import Derived.Test.YtegoiiconhgjbaaIntR
import Derived.Deep.RegionHeld3
namespace Go.Proofs.Ytegoiiconhgjbaa.Eas
open Go.RowKit
open Go.Proofs.Ytegoiiconhgjbaa.Ints (Rd Row Own append_int append_intG)

/-- What a call leaves that answers a list of numbers and a code. -/
def IntsOut (V : List Int) (E : Int) (w : World) (e : Ending) (w' : World) : Prop :=
  ∃ (A : Option Addr) (c : Nat), e = .returned (.tuple #[.slice A V.length c, .int .i64 E]) ∧ Row w' w.heap.size w'.heap.size A V.length c V ∧ Below w.heap.size w w'
theorem IntsOut.of {V : List Int} {E : Int} {w w' : World} {v : Value} (h : Own w' w.heap.size v V) (hb : Below w.heap.size w w') : IntsOut V E w (.returned (.tuple #[v, .int .i64 E])) w' := by
  obtain ⟨A, c, rfl, hr⟩ := h.form
  exact ⟨A, c, rfl, hr, hb⟩

theorem yw_step (m d f : Int) (n : Nat) : yw m d f (n + 1) = yw m d f n ++ (if oM (f + n) = m ∧ oD (f + n) = d then [f + n] else []) := rfl
theorem yw_yes {m d f : Int} {n : Nat} {acc : List Int} {y : Int} (h : acc = yw m d f n) (hy : y = f + n) (h1 : oM y = m) (h2 : oD y = d) : acc ++ [y] = yw m d f (n + 1) := by
  subst hy h
  rw [yw_step, if_pos ⟨h1, h2⟩]
theorem yw_no {m d f : Int} {n : Nat} {acc : List Int} {y : Int} (h : acc = yw m d f n) (hy : y = f + n) (h1 : ¬ (oM y = m ∧ oD y = d)) : acc = yw m d f (n + 1) := by
  subst hy h
  rw [yw_step, if_neg h1, List.append_nil]

/-- The loop over the years. -/
def YLoop (m d f : Int) (N : Nat) (w : World) (k : Nat) (v i : Value) (wr : World) : Prop :=
  ∃ (n : Nat) (acc : List Int), i = .int .i64 (f + n) ∧ k = N - n ∧ n ≤ N ∧ Hid (acc = yw m d f n) ∧ acc.length ≤ n ∧ Own wr w.heap.size v acc ∧ Below w.heap.size w wr

set_option maxHeartbeats 4000000 in
theorem spec_YearsWithEaster_yes (m d f t : Int) (h : ywOk m d f t) (w : World) : Calls Try.prog 26 #[.int .i64 m, .int .i64 d, .int .i64 f, .int .i64 t] w (IntsOut (yw m d f (t - f + 1).toNat) 0 w) := by
  obtain ⟨hf, h1, h2, h3, hv⟩ := h
  have Y := Lib.hid (spec_year_yes f hf)
  obtain ⟨f1, f2⟩ := hf
  obtain ⟨z, hz⟩ : ∃ z : Int, (if f + 600 < 2000 then f + 600 else 2000) = z := ⟨_, rfl⟩
  have I := Lib.hid (spec_in_yes t f z ⟨h1, by rw [← hz]; split <;> omega⟩)
  have V := Lib.hid (spec_IsOldDate 4 m d)
  rw [vb_true hv] at V
  obtain ⟨N, hN⟩ : ∃ N : Nat, (t - f + 1).toNat = N := ⟨_, rfl⟩
  have hN2 : t - f + 1 = N := by omega
  have hN3 : N ≤ 601 := by omega
  rw [hN]
  clear hv hN
  have W1 : IntKind.i64.wrap (f + 600) = f + 600 := IntWalk.i64_in _ ⟨by omega, by omega⟩
  go_enter Try.func26, Try.ntmps26
  go_wp2_with fail
  refine (Y.out _).mono ?_
  rintro e w1 ⟨rfl, rfl⟩
  go_wp2_with fail
  refine (I.out _).mono ?_
  rintro e w1 ⟨rfl, rfl⟩
  go_wp2_with fail
  refine (V.out _).mono ?_
  rintro e w1 ⟨rfl, hb⟩
  go_wp2_with fail
  go_loopg [10, 11] N (fun k v i wr => YLoop m d f N w k v i wr)
  case atStart => exact ⟨0, [], by simp, by omega, by omega, Lib.hid rfl, by simp, (Own.made0 w1).mono hb.size, hb.alloc hb.size _⟩
  case round =>
    obtain ⟨n, acc, rfl, hk, hn, HA, hl, hown, hb2⟩ := hrel
    subst hk
    by_cases hlt : n < N
    · have O := Lib.hid (spec_old (f + n) ⟨by omega, by omega⟩)
      have HB := Lib.hid (And.intro hN2 h3)
      obtain ⟨y, hy⟩ : ∃ y, f + (n : Int) = y := ⟨_, rfl⟩
      have Hy := Lib.hid hy.symm
      have by1 : 1 ≤ y ∧ y ≤ 2000 := by omega
      have by2 : y ≤ t := by omega
      rw [hy] at O ⊢
      obtain ⟨M, hM⟩ : ∃ M, oM y = M := ⟨_, rfl⟩
      obtain ⟨D, hD⟩ : ∃ D, oD y = D := ⟨_, rfl⟩
      rw [hM, hD] at O
      obtain ⟨by3, by4⟩ := by1
      by_cases hc : M = m ∧ D = d
      · obtain ⟨rfl, rfl⟩ := hc
        have HN := Lib.hid (yw_yes HA.out hy.symm hM hD)
        clear hM hD HA
        go_wp2_with fail
        refine (O.out _).mono ?_
        rintro e w2 ⟨rfl, hb3⟩
        have HO := (hown.below hb3).below ((Below.refl _ _).alloc (Nat.le_refl _) (.cells #[.int .i64 y, .int .i64 M, .int .i64 D] 36))
        have hb4 := (hb2.trans (hb3.mono hb2.size)).alloc (by have := hb2.size; have := hb3.size; omega) (.cells #[.int .i64 y, .int .i64 M, .int .i64 D] 36)
        go_wp2_with (at_builtin; refine append_intG (by simp) hb4 HO (by omega) rfl (.tmp 51) (.tmp 53) rfl rfl rfl ?_)
        intro v4 w4 own4 hb5
        clear HO hb4 hown hb3 hb2
        go_wp2_with fail
        go_roundg (N - (n + 1))
        case measure => omega
        case rel => exact ⟨n + 1, _, by rw [← hy]; push_cast; rw [Int.add_assoc], by omega, by omega, HN, by simp; omega, own4, hb5⟩
      · have HN := Lib.hid (yw_no HA.out hy.symm (fun h => hc ⟨hM.symm.trans h.1, hD.symm.trans h.2⟩))
        clear hM hD HA
        by_cases hM : M = m
        · have hD : (D == d) = false := by
            have : ¬ D = d := fun h => hc ⟨hM, h⟩
            simpa using this
          subst hM
          clear hc
          go_wp2_with fail
          refine (O.out _).mono ?_
          rintro e w2 ⟨rfl, hb3⟩
          have HO := (hown.below hb3).below ((Below.refl _ _).alloc (Nat.le_refl _) (.cells #[.int .i64 y, .int .i64 M, .int .i64 D] 36))
          have hb4 := (hb2.trans (hb3.mono hb2.size)).alloc (by have := hb2.size; have := hb3.size; omega) (.cells #[.int .i64 y, .int .i64 M, .int .i64 D] 36)
          go_wp2_with fail
          go_roundg (N - (n + 1))
          case measure => omega
          case rel => exact ⟨n + 1, _, by rw [← hy]; push_cast; rw [Int.add_assoc], by omega, by omega, HN, by omega, HO, hb4⟩
        · have hE : (M == m) = false := by simpa using hM
          clear hM hc
          go_wp2_with fail
          refine (O.out _).mono ?_
          rintro e w2 ⟨rfl, hb3⟩
          have HO := (hown.below hb3).below ((Below.refl _ _).alloc (Nat.le_refl _) (.cells #[.int .i64 y, .int .i64 M, .int .i64 D] 36))
          have hb4 := (hb2.trans (hb3.mono hb2.size)).alloc (by have := hb2.size; have := hb3.size; omega) (.cells #[.int .i64 y, .int .i64 M, .int .i64 D] 36)
          go_wp2_with fail
          go_roundg (N - (n + 1))
          case measure => omega
          case rel => exact ⟨n + 1, _, by rw [← hy]; push_cast; rw [Int.add_assoc], by omega, by omega, HN, by omega, HO, hb4⟩
    · have e : n = N := by omega
      subst e
      have HV := HA.out
      have ht : ¬ f + (n : Int) ≤ t := by omega
      clear HA
      go_wp2_with fail
      go_ret2
      rw [← HV]
      exact IntsOut.of hown hb2

/-- Where a year, a range or a date is none, both answer no list and the code. -/
theorem yw_no_ok {m d f t : Int} (h : ¬ ywOk m d f t) : ¬ isY f ∨ (isY f ∧ (t < f ∨ 2000 < t ∨ f + 600 < t)) ∨ (isY f ∧ f ≤ t ∧ t ≤ 2000 ∧ t ≤ f + 600 ∧ ¬ Cal.valid false 4 m d) := by
  by_cases h1 : isY f
  · refine .inr ?_
    by_cases h2 : f ≤ t ∧ t ≤ 2000 ∧ t ≤ f + 600
    · exact .inr ⟨h1, h2.1, h2.2.1, h2.2.2, fun hv => h ⟨h1, h2.1, h2.2.1, h2.2.2, hv⟩⟩
    · exact .inl ⟨h1, by omega⟩
  · exact .inl h1
theorem IntsOut.empty {w w' : World} (hb : Below w.heap.size w w') : IntsOut [] 2 w (.returned (.tuple #[.slice none 0 0, .int .i64 2])) w' :=
  ⟨none, 0, rfl, Row.nil (Nat.le_refl _), hb⟩

set_option maxHeartbeats 4000000 in
theorem spec_YearsWithEaster_no (m d f t : Int) (h : ¬ ywOk m d f t) (w : World) : Calls Try.prog 26 #[.int .i64 m, .int .i64 d, .int .i64 f, .int .i64 t] w (IntsOut [] 2 w) := by
  rcases yw_no_ok h with hf | ⟨hf, hr⟩ | ⟨hf, h1, h2, h3, hv⟩
  · have Y := Lib.hid (spec_year_no f hf)
    clear h hf
    go_enter Try.func26, Try.ntmps26
    go_wp2_with fail
    refine (Y.out _).mono ?_
    rintro e w1 ⟨rfl, rfl⟩
    go_wp2_with fail
    go_ret2
    exact IntsOut.empty (Below.refl _ _)
  · have Y := Lib.hid (spec_year_yes f hf)
    obtain ⟨f1, f2⟩ := hf
    obtain ⟨z, hz⟩ : ∃ z : Int, (if f + 600 < 2000 then f + 600 else 2000) = z := ⟨_, rfl⟩
    have I := Lib.hid (spec_in_no t f z (by rw [← hz]; split <;> omega))
    have W1 : IntKind.i64.wrap (f + 600) = f + 600 := IntWalk.i64_in _ ⟨by omega, by omega⟩
    clear h hr
    go_enter Try.func26, Try.ntmps26
    go_wp2_with fail
    refine (Y.out _).mono ?_
    rintro e w1 ⟨rfl, rfl⟩
    go_wp2_with fail
    refine (I.out _).mono ?_
    rintro e w1 ⟨rfl, rfl⟩
    go_wp2_with fail
    go_ret2
    exact IntsOut.empty (Below.refl _ _)
  · have Y := Lib.hid (spec_year_yes f hf)
    obtain ⟨f1, f2⟩ := hf
    obtain ⟨z, hz⟩ : ∃ z : Int, (if f + 600 < 2000 then f + 600 else 2000) = z := ⟨_, rfl⟩
    have I := Lib.hid (spec_in_yes t f z ⟨h1, by rw [← hz]; split <;> omega⟩)
    have V := Lib.hid (spec_IsOldDate 4 m d)
    rw [vb_false hv] at V
    have W1 : IntKind.i64.wrap (f + 600) = f + 600 := IntWalk.i64_in _ ⟨by omega, by omega⟩
    clear h hv
    go_enter Try.func26, Try.ntmps26
    go_wp2_with fail
    refine (Y.out _).mono ?_
    rintro e w1 ⟨rfl, rfl⟩
    go_wp2_with fail
    refine (I.out _).mono ?_
    rintro e w1 ⟨rfl, rfl⟩
    go_wp2_with fail
    refine (V.out _).mono ?_
    rintro e w1 ⟨rfl, hb⟩
    go_wp2_with fail
    go_ret2
    exact IntsOut.empty hb

theorem spec_YearsWithEaster (m d f t : Int) (w : World) : Calls Try.prog 26 #[.int .i64 m, .int .i64 d, .int .i64 f, .int .i64 t] w (IntsOut (ywL m d f t) (ywE m d f t) w) := by
  by_cases h : ywOk m d f t
  · rw [show ywL m d f t = yw m d f (t - f + 1).toNat from if_pos h, show ywE m d f t = 0 from if_pos h]
    exact spec_YearsWithEaster_yes m d f t h w
  · rw [show ywL m d f t = [] from if_neg h, show ywE m d f t = 2 from if_neg h]
    exact spec_YearsWithEaster_no m d f t h w

end Go.Proofs.Ytegoiiconhgjbaa.Eas
