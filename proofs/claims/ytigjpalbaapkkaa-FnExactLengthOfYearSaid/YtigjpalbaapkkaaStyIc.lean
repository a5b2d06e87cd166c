/- Contracts of impl's year of a day, YearSpan, YearOn, YearDifference, LengthOfYear. -/
import Derived.Test.YtigjpalbaapkkaaStyIb
namespace Go.Proofs.Ytigjpalbaapkkaa.Sty
open Go.RowKit
open Go.Proofs.Ytigjpalbaapkkaa.Eas (isY It)
open Go.Proofs.Ytigjpalbaapkkaa.Fea (yr yr_isY yr_num bs isDay)
open Go.Proofs.Ytigjpalbaapkkaa.Sets (impl_spanHas)

theorem impl_dateYr (n : Int) (h : isDay n) (w : World) : Calls Try.prog 90 #[.int .i64 0, .int .i64 n] w fun e w' => ∃ m d : Int, e = .returned (.tuple #[.agg #[.int .i64 (yr n), .int .i64 m, .int .i64 d], .int .i64 0]) ∧ Below w.heap.size w w' := by
  refine (impl_dateOf false n w).mono fun e w' q => ?_
  obtain ⟨y, m, d, c, he, hd, hb⟩ := q
  rcases hd with ⟨-, -, rfl, hv, hn⟩ | ⟨h2, -⟩
  · rw [yr_num hv hn]
    exact ⟨m, d, he, hb⟩
  · exfalso
    rw [Cal.ys_1, Cal.ys_2001] at h2
    obtain ⟨h0, h1⟩ := h
    simp at h2
    omega

set_option maxRecDepth 10000 in
set_option maxHeartbeats 4000000 in
theorem impl_ryearOn (j : Nat) (hj : j < 7) (n : Int) (hn : isDay n) (w : World) : Calls Try.prog 72 #[stV j, .int .i64 n] w (NT (on j n) (told j n) w) := by
  have D := Lib.hid (impl_dateYr n hn)
  have P := Lib.hid (fun y hy => impl_rspan_nat j hj y hy)
  obtain ⟨n0, n1⟩ := hn
  obtain ⟨y0, y1⟩ := yr_isY n n0 n1
  have HNear : Hid (∀ z, OnIs j n z → yr n - 1 ≤ z ∧ z ≤ yr n + 1) := Lib.hid fun z h => h.near
  generalize yr n = yn at *
  obtain ⟨A, hA⟩ : ∃ A, max (yn - 1) 2 = A := ⟨_, rfl⟩
  obtain ⟨B, hB⟩ : ∃ B, min (yn + 1) 1999 = B := ⟨_, rfl⟩
  have cA : (if yn - 1 < 2 then 2 else yn - 1) = A := by split <;> omega
  have cB : (if 1999 < yn + 1 then 1999 else yn + 1) = B := by split <;> omega
  have hA2 : 2 ≤ A := by omega
  have hB2 : B ≤ 1999 := by omega
  have hAB : A ≤ B + 1 := by omega
  have HNear2 : Hid (∀ z, OnIs j n z → A ≤ z ∧ z ≤ B) := Lib.hid fun z h => by
    have h1 := HNear.out z h
    have h2 := h.1
    unfold isT at h2
    omega
  clear HNear
  have S0 := (St.start w).alloc 83 #[.string (bs (snL (j : Int))), .func (.func (stF j)) #[] #[]]
  have hV : stV j = .agg #[.string (bs (snL (j : Int))), .func (.func (stF j)) #[] #[]] := rfl
  rw [hV] at P ⊢
  clear hV
  generalize bs (snL (j : Int)) = s at *
  generalize stF j = g at *
  go_enter Try.func72, Try.ntmps72
  go_wp2_with fail
  refine (D.out _).mono ?_
  rintro e w1 ⟨m, d, rfl, hb1⟩
  have S1 := (S0.call hb1).alloc 47 #[.int .i64 yn, .int .i64 m, .int .i64 d]
  have c0 := S1.b0.cell 0
  simp at c0
  clear D
  go_wp2_with fail
  generalize w1.alloc (.cells #[.int .i64 yn, .int .i64 m, .int .i64 d] 47) = w2 at *
  generalize w1.heap.size = g2 at *
  go_loopg [8] (B + 1 - A).toNat (fun k i wr => ∃ Y : Int, i = .int .i64 Y ∧ k = (B + 1 - Y).toNat ∧ A ≤ Y ∧ Y ≤ B + 1 ∧ Hid (∀ z, OnIs j n z → Y ≤ z) ∧ St [(g2, 47, #[.int .i64 yn, .int .i64 m, .int .i64 d]), (w.heap.size, 83, #[.string s, .func (.func g) #[] #[]])] w wr)
  case atStart => exact ⟨A, rfl, rfl, by omega, by omega, Lib.hid (fun z h => (HNear2.out z h).1), S1⟩
  case round =>
    clear c0
    obtain ⟨Y, rfl, hk, hY0, hY1, HA, S⟩ := hrel
    subst hk
    have c0 := S.b0.cell 0
    have c1 := S.b1.cell 0
    have c2 := S.b1.cell 1
    simp at c0 c1 c2
    by_cases hlt : Y ≤ B
    · have hT : isT Y := ⟨by omega, by omega⟩
      have P1 := Lib.hid (P.out Y hT)
      by_cases hin : bg j Y ≤ n ∧ n ≤ bg j (Y + 1) - 1
      · have I := Lib.hid (impl_spanHas (bg j Y) (bg j (Y + 1) - 1) n true (decide_eq_true hin))
        have HV := Lib.hid (show Y = on j n ∧ true = told j n from by
          have := on_of (show OnIs j n Y from ⟨hT, hin.1, by omega⟩)
          exact ⟨this.1.symm, this.2.symm⟩)
        clear hin HA HNear2 P
        generalize bg j Y = a at *
        generalize bg j (Y + 1) - 1 = b at *
        go_wp2_with fail
        refine (P1.out _).mono ?_
        rintro e w3 ⟨rfl, hb3⟩
        go_wp2_with fail
        refine (I.out _).mono ?_
        rintro e w4 ⟨rfl, hb4⟩
        have S4 := (S.call hb3).call hb4
        go_wp2_with fail
        go_ret2
        exact ⟨ret_nt HV.out.1 HV.out.2, S4.bel⟩
      · have I := Lib.hid (impl_spanHas (bg j Y) (bg j (Y + 1) - 1) n false (decide_eq_false hin))
        have HN : Hid (∀ z, OnIs j n z → Y + 1 ≤ z) := Lib.hid fun z h => by
          have h1 := HA.out z h
          have h2 : z ≠ Y := fun e => by subst e; exact hin ⟨h.2.1, by have := h.2.2; omega⟩
          omega
        clear hin HA HNear2 P
        generalize bg j Y = a at *
        generalize bg j (Y + 1) - 1 = b at *
        go_wp2_with fail
        refine (P1.out _).mono ?_
        rintro e w3 ⟨rfl, hb3⟩
        go_wp2_with fail
        refine (I.out _).mono ?_
        rintro e w4 ⟨rfl, hb4⟩
        have S4 := (S.call hb3).call hb4
        go_wp2_with fail
        go_roundg (B + 1 - (Y + 1)).toNat
        case measure => omega
        case rel => exact ⟨Y + 1, by go_num, rfl, by omega, by omega, HN, S4⟩
    · have HV := Lib.hid (show 0 = on j n ∧ false = told j n from by
        have := on_no (s := j) (n := n) fun z h => by
          have h1 := HA.out z h
          have h2 := HNear2.out z h
          omega
        exact ⟨this.1.symm, this.2.symm⟩)
      have hge : B < Y := by omega
      clear HA HNear2 P
      go_wp2_with fail
      go_ret2
      exact ⟨ret_nt HV.out.1 HV.out.2, S.bel⟩

end Go.Proofs.Ytigjpalbaapkkaa.Sty
