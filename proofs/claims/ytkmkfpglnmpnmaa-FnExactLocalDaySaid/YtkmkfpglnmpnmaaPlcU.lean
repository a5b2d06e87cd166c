/- The contract of spec's DaysOfYear. -/
import Derived.Test.YtkmkfpglnmpnmaaPlcZ
import Derived.Deep.LoopGhost
namespace Go.Proofs.Ytkmkfpglnmpnmaa.Plc
open Go.RowKit

theorem ld_year {R k Y m d y : Int} {b : Bool} (h : LdIs R k Y m d b) (h2 : y ≤ 2000) : (b = true ∧ Y = y) ↔ Loc.inY R y k := by
  unfold Loc.inY
  rcases h with ⟨h, rfl, hv, hn⟩ | ⟨h, hk, rfl, hv, hn⟩ | ⟨h, hk, rfl⟩
  · rw [if_pos h, ← hn]
    exact ⟨fun k => (Loc.year_iff false hv y).1 k.2, fun k => ⟨rfl, (Loc.year_iff false hv y).2 k⟩⟩
  · rw [if_neg (by omega), ← hn]
    exact ⟨fun k => (Loc.year_iff true hv y).1 k.2, fun k => ⟨rfl, (Loc.year_iff true hv y).2 k⟩⟩
  · rw [if_neg (by omega)]
    constructor
    · rintro ⟨h, _⟩; cases h
    · rintro ⟨_, h⟩
      have a := Cal.ys_mono true (y + 1) 2001 (by omega)
      have b : Cal.ys true 2001 = 730487 := by decide
      omega

/-- The loop over the days near to a year. -/
def YearLoop (R y hi : Int) (w : World) (g : Nat) (v6 v8 : Value) (wr : World) : Prop :=
  ∃ k c : Int, 0 ≤ k ∧ k ≤ hi + 1 ∧ g = (hi + 1 - k).toNat ∧ v6 = .int .i64 c ∧ v8 = .int .i64 k ∧ Hid (c = Loc.cnt R y k) ∧ 0 ≤ c ∧ c ≤ 732 ∧ St [(w.heap.size, 35, #[.int .i64 R])] w wr

set_option maxHeartbeats 4000000 in
theorem spec_year_00 (R y F : Int) (hR : 2 ≤ R) (h2 : y ≤ 2000) (hF : 0 ≤ F ∧ F ≤ 730500) (hL : 20 < F) (hH : F + 400 < 730499) (C1 : Hid (∀ w, Calls Try.prog 44 #[.agg #[.int .i64 R]] w (Bl true w)))
    (C2 : Hid (∀ w, Calls Try.prog 91 #[.int .i64 y, .int .i64 1, .int .i64 2000] w fun e w' => e = .returned (.bool true) ∧ w = w'))
    (C3 : Hid (∀ w, Calls Try.prog 75 #[.agg #[.int .i64 y, .int .i64 1, .int .i64 1], .bool false] w (Ic F w)))
    (START : Hid (0 = Loc.cnt R y (F - 20))) (END : Hid (Loc.cnt R y (F + 400 + 1) = Loc.ylen R y)) (w : World) :
    Calls Try.prog 50 #[.agg #[.int .i64 R], .int .i64 y] w (Two (Loc.ylen R y) 0 w) := by
  go_enter Try.func50, Try.ntmps50
  go_wp2_with fail
  refine (C1.out _).mono ?_
  rintro e w1 ⟨rfl, hb⟩
  have S := ((St.start w).alloc 35 #[.int .i64 R]).call hb
  go_wp2_with fail
  refine (C2.out _).mono ?_
  rintro e w2 ⟨rfl, rfl⟩
  go_wp2_with fail
  refine (C3.out _).mono ?_
  rintro e w3 ⟨rfl, hb3⟩
  have S := S.call hb3
  go_wp2_with fail
  go_loopg [6, 8] (F + 400 + 1 - (F - 20)).toNat (fun g v6 v8 wr => YearLoop R y (F + 400) w g v6 v8 wr)
  case atStart => exact ⟨F - 20, 0, by omega, by omega, rfl, rfl, rfl, START, by omega, by omega, S⟩
  case round =>
    obtain ⟨k, c, k0, k1, rfl, rfl, rfl, hcnt, c0, c1, SR⟩ := hrel
    by_cases hk : k ≤ F + 400
    · have C4 := Lib.hid (spec_ldate R k hR k0 (by omega))
      have r0 := SR.b0.cell 0
      simp only [List.getElem?_toArray, List.getElem?_cons_zero] at r0
      go_wp2_with fail
      refine (C4.out _).mono ?_
      rintro e w4 ⟨Y, m, d, b, rfl, hd, hb4⟩
      have HI := ld_year hd h2
      have hst := Loc.cnt_step R y k
      have hbd := Loc.cnt_bd R y (k + 1)
      have S5 := (SR.call hb4).alloc 25 #[.int .i64 Y, .int .i64 m, .int .i64 d]
      clear hd C4
      cases b
      · have hn : ¬ Loc.inY R y k := fun h => by have := (HI.2 h).1; cases this
        rw [if_neg hn] at hst
        have HC := Lib.hid (show c = Loc.cnt R y (k + 1) by rw [hst, ← hcnt.out]; omega)
        have S6 := S5.tail
        clear hst HI hcnt hn r0 hbd
        go_wp2_with fail
        go_roundg (F + 400 + 1 - (k + 1)).toNat
        case measure => omega
        case rel => exact ⟨k + 1, c, by omega, by omega, rfl, rfl, by go_num, HC, c0, c1, S6⟩
      · by_cases hY : Y = y
        · have hn : Loc.inY R y k := HI.1 ⟨rfl, hY⟩
          rw [if_pos hn] at hst
          have HC := Lib.hid (show c + 1 = Loc.cnt R y (k + 1) by rw [hst, ← hcnt.out])
          have c2 : c + 1 ≤ 732 := by have := HC.out; omega
          have S6 := S5.tail
          obtain ⟨d0, d1, d2⟩ := S5.b0.three
          rw [hY] at S6
          clear hst HI hcnt hn r0 hbd
          go_wp2_with fail
          go_roundg (F + 400 + 1 - (k + 1)).toNat
          case measure => omega
          case rel => exact ⟨k + 1, c + 1, by omega, by omega, rfl, by go_num, by go_num, HC, by omega, c2, S6⟩
        · have hn : ¬ Loc.inY R y k := fun h => hY (HI.2 h).2
          have hYb : (Y == y) = false := by simpa using hY
          obtain ⟨d0, d1, d2⟩ := S5.b0.three
          rw [if_neg hn] at hst
          have HC := Lib.hid (show c = Loc.cnt R y (k + 1) by rw [hst, ← hcnt.out]; omega)
          have S6 := S5.tail
          clear hst HI hcnt hn r0 hbd hY
          go_wp2_with fail
          go_roundg (F + 400 + 1 - (k + 1)).toNat
          case measure => omega
          case rel => exact ⟨k + 1, c, by omega, by omega, rfl, rfl, by go_num, HC, c0, c1, S6⟩
    · go_wp2_with fail
      go_ret2
      have ek : k = F + 400 + 1 := by omega
      exact ⟨by rw [hcnt.out, ek, END.out]; rfl, SR.bel⟩

set_option maxHeartbeats 4000000 in
theorem spec_year_01 (R y F : Int) (hR : 2 ≤ R) (h2 : y ≤ 2000) (hF : 0 ≤ F ∧ F ≤ 730500) (hL : 20 < F) (hH : 730499 ≤ F + 400) (C1 : Hid (∀ w, Calls Try.prog 44 #[.agg #[.int .i64 R]] w (Bl true w)))
    (C2 : Hid (∀ w, Calls Try.prog 91 #[.int .i64 y, .int .i64 1, .int .i64 2000] w fun e w' => e = .returned (.bool true) ∧ w = w'))
    (C3 : Hid (∀ w, Calls Try.prog 75 #[.agg #[.int .i64 y, .int .i64 1, .int .i64 1], .bool false] w (Ic F w)))
    (START : Hid (0 = Loc.cnt R y (F - 20))) (END : Hid (Loc.cnt R y (730499 + 1) = Loc.ylen R y)) (w : World) :
    Calls Try.prog 50 #[.agg #[.int .i64 R], .int .i64 y] w (Two (Loc.ylen R y) 0 w) := by
  go_enter Try.func50, Try.ntmps50
  go_wp2_with fail
  refine (C1.out _).mono ?_
  rintro e w1 ⟨rfl, hb⟩
  have S := ((St.start w).alloc 35 #[.int .i64 R]).call hb
  go_wp2_with fail
  refine (C2.out _).mono ?_
  rintro e w2 ⟨rfl, rfl⟩
  go_wp2_with fail
  refine (C3.out _).mono ?_
  rintro e w3 ⟨rfl, hb3⟩
  have S := S.call hb3
  go_wp2_with fail
  go_loopg [6, 8] (730499 + 1 - (F - 20)).toNat (fun g v6 v8 wr => YearLoop R y (730499) w g v6 v8 wr)
  case atStart => exact ⟨F - 20, 0, by omega, by omega, rfl, rfl, rfl, START, by omega, by omega, S⟩
  case round =>
    obtain ⟨k, c, k0, k1, rfl, rfl, rfl, hcnt, c0, c1, SR⟩ := hrel
    by_cases hk : k ≤ 730499
    · have C4 := Lib.hid (spec_ldate R k hR k0 (by omega))
      have r0 := SR.b0.cell 0
      simp only [List.getElem?_toArray, List.getElem?_cons_zero] at r0
      go_wp2_with fail
      refine (C4.out _).mono ?_
      rintro e w4 ⟨Y, m, d, b, rfl, hd, hb4⟩
      have HI := ld_year hd h2
      have hst := Loc.cnt_step R y k
      have hbd := Loc.cnt_bd R y (k + 1)
      have S5 := (SR.call hb4).alloc 25 #[.int .i64 Y, .int .i64 m, .int .i64 d]
      clear hd C4
      cases b
      · have hn : ¬ Loc.inY R y k := fun h => by have := (HI.2 h).1; cases this
        rw [if_neg hn] at hst
        have HC := Lib.hid (show c = Loc.cnt R y (k + 1) by rw [hst, ← hcnt.out]; omega)
        have S6 := S5.tail
        clear hst HI hcnt hn r0 hbd
        go_wp2_with fail
        go_roundg (730499 + 1 - (k + 1)).toNat
        case measure => omega
        case rel => exact ⟨k + 1, c, by omega, by omega, rfl, rfl, by go_num, HC, c0, c1, S6⟩
      · by_cases hY : Y = y
        · have hn : Loc.inY R y k := HI.1 ⟨rfl, hY⟩
          rw [if_pos hn] at hst
          have HC := Lib.hid (show c + 1 = Loc.cnt R y (k + 1) by rw [hst, ← hcnt.out])
          have c2 : c + 1 ≤ 732 := by have := HC.out; omega
          have S6 := S5.tail
          obtain ⟨d0, d1, d2⟩ := S5.b0.three
          rw [hY] at S6
          clear hst HI hcnt hn r0 hbd
          go_wp2_with fail
          go_roundg (730499 + 1 - (k + 1)).toNat
          case measure => omega
          case rel => exact ⟨k + 1, c + 1, by omega, by omega, rfl, by go_num, by go_num, HC, by omega, c2, S6⟩
        · have hn : ¬ Loc.inY R y k := fun h => hY (HI.2 h).2
          have hYb : (Y == y) = false := by simpa using hY
          obtain ⟨d0, d1, d2⟩ := S5.b0.three
          rw [if_neg hn] at hst
          have HC := Lib.hid (show c = Loc.cnt R y (k + 1) by rw [hst, ← hcnt.out]; omega)
          have S6 := S5.tail
          clear hst HI hcnt hn r0 hbd hY
          go_wp2_with fail
          go_roundg (730499 + 1 - (k + 1)).toNat
          case measure => omega
          case rel => exact ⟨k + 1, c, by omega, by omega, rfl, rfl, by go_num, HC, c0, c1, S6⟩
    · go_wp2_with fail
      go_ret2
      have ek : k = 730499 + 1 := by omega
      exact ⟨by rw [hcnt.out, ek, END.out]; rfl, SR.bel⟩

set_option maxHeartbeats 4000000 in
theorem spec_year_10 (R y F : Int) (hR : 2 ≤ R) (h2 : y ≤ 2000) (hF : 0 ≤ F ∧ F ≤ 730500) (hL : F ≤ 20) (hH : F + 400 < 730499) (C1 : Hid (∀ w, Calls Try.prog 44 #[.agg #[.int .i64 R]] w (Bl true w)))
    (C2 : Hid (∀ w, Calls Try.prog 91 #[.int .i64 y, .int .i64 1, .int .i64 2000] w fun e w' => e = .returned (.bool true) ∧ w = w'))
    (C3 : Hid (∀ w, Calls Try.prog 75 #[.agg #[.int .i64 y, .int .i64 1, .int .i64 1], .bool false] w (Ic F w)))
    (START : Hid (0 = Loc.cnt R y (0))) (END : Hid (Loc.cnt R y (F + 400 + 1) = Loc.ylen R y)) (w : World) :
    Calls Try.prog 50 #[.agg #[.int .i64 R], .int .i64 y] w (Two (Loc.ylen R y) 0 w) := by
  go_enter Try.func50, Try.ntmps50
  go_wp2_with fail
  refine (C1.out _).mono ?_
  rintro e w1 ⟨rfl, hb⟩
  have S := ((St.start w).alloc 35 #[.int .i64 R]).call hb
  go_wp2_with fail
  refine (C2.out _).mono ?_
  rintro e w2 ⟨rfl, rfl⟩
  go_wp2_with fail
  refine (C3.out _).mono ?_
  rintro e w3 ⟨rfl, hb3⟩
  have S := S.call hb3
  go_wp2_with fail
  go_loopg [6, 8] (F + 400 + 1 - (0)).toNat (fun g v6 v8 wr => YearLoop R y (F + 400) w g v6 v8 wr)
  case atStart => exact ⟨0, 0, by omega, by omega, rfl, rfl, rfl, START, by omega, by omega, S⟩
  case round =>
    obtain ⟨k, c, k0, k1, rfl, rfl, rfl, hcnt, c0, c1, SR⟩ := hrel
    by_cases hk : k ≤ F + 400
    · have C4 := Lib.hid (spec_ldate R k hR k0 (by omega))
      have r0 := SR.b0.cell 0
      simp only [List.getElem?_toArray, List.getElem?_cons_zero] at r0
      go_wp2_with fail
      refine (C4.out _).mono ?_
      rintro e w4 ⟨Y, m, d, b, rfl, hd, hb4⟩
      have HI := ld_year hd h2
      have hst := Loc.cnt_step R y k
      have hbd := Loc.cnt_bd R y (k + 1)
      have S5 := (SR.call hb4).alloc 25 #[.int .i64 Y, .int .i64 m, .int .i64 d]
      clear hd C4
      cases b
      · have hn : ¬ Loc.inY R y k := fun h => by have := (HI.2 h).1; cases this
        rw [if_neg hn] at hst
        have HC := Lib.hid (show c = Loc.cnt R y (k + 1) by rw [hst, ← hcnt.out]; omega)
        have S6 := S5.tail
        clear hst HI hcnt hn r0 hbd
        go_wp2_with fail
        go_roundg (F + 400 + 1 - (k + 1)).toNat
        case measure => omega
        case rel => exact ⟨k + 1, c, by omega, by omega, rfl, rfl, by go_num, HC, c0, c1, S6⟩
      · by_cases hY : Y = y
        · have hn : Loc.inY R y k := HI.1 ⟨rfl, hY⟩
          rw [if_pos hn] at hst
          have HC := Lib.hid (show c + 1 = Loc.cnt R y (k + 1) by rw [hst, ← hcnt.out])
          have c2 : c + 1 ≤ 732 := by have := HC.out; omega
          have S6 := S5.tail
          obtain ⟨d0, d1, d2⟩ := S5.b0.three
          rw [hY] at S6
          clear hst HI hcnt hn r0 hbd
          go_wp2_with fail
          go_roundg (F + 400 + 1 - (k + 1)).toNat
          case measure => omega
          case rel => exact ⟨k + 1, c + 1, by omega, by omega, rfl, by go_num, by go_num, HC, by omega, c2, S6⟩
        · have hn : ¬ Loc.inY R y k := fun h => hY (HI.2 h).2
          have hYb : (Y == y) = false := by simpa using hY
          obtain ⟨d0, d1, d2⟩ := S5.b0.three
          rw [if_neg hn] at hst
          have HC := Lib.hid (show c = Loc.cnt R y (k + 1) by rw [hst, ← hcnt.out]; omega)
          have S6 := S5.tail
          clear hst HI hcnt hn r0 hbd hY
          go_wp2_with fail
          go_roundg (F + 400 + 1 - (k + 1)).toNat
          case measure => omega
          case rel => exact ⟨k + 1, c, by omega, by omega, rfl, rfl, by go_num, HC, c0, c1, S6⟩
    · go_wp2_with fail
      go_ret2
      have ek : k = F + 400 + 1 := by omega
      exact ⟨by rw [hcnt.out, ek, END.out]; rfl, SR.bel⟩

theorem spec_year_yes (R y : Int) (hc : icB R = true) (hR : 2 ≤ R) (h1 : 1 ≤ y) (h2 : y ≤ 2000) (w : World) :
    Calls Try.prog 50 #[.agg #[.int .i64 R], .int .i64 y] w (Two (Loc.ylen R y) 0 w) := by
  have C1 := spec_isCal R
  rw [hc] at C1
  have C2 := spec_in y 1 2000
  rw [inB_true ⟨h1, h2⟩] at C2
  have C3 := spec_number_old y 1 1 h1 (by omega) (by omega) (by omega) (by omega) (by omega)
  have e0 : Cal.num false y 1 1 = Cal.ys false y := by rw [num_first, Cal.cum_one]; omega
  rw [e0] at C3
  have b1 := Cal.ys_bd false y h1 (by omega)
  have b2 := Cal.ys_bd false (y + 1) (by omega) (by omega)
  have b3 := Cal.ys_bd true (y + 1) (by omega) (by omega)
  have b4 := Cal.ys_bd true y h1 (by omega)
  have l1 := Loc.ys_len false y
  have l2 := Loc.ys_len true y
  have l3 := Loc.ys_near y h1 (by omega)
  have l4 : Cal.ys true (y + 1) ≤ 730487 := by
    have a := Cal.ys_mono true (y + 1) 2001 (by omega)
    have b : Cal.ys true 2001 = 730487 := by decide
    omega
  by_cases hL : 20 < Cal.ys false y
  · by_cases hH : Cal.ys false y + 400 < 730499
    · exact spec_year_00 R y _ hR h2 b1 hL hH (Lib.hid C1) (Lib.hid C2) (Lib.hid C3) (Lib.hid (Loc.cnt_lo R y _ (by omega) (by omega)).symm) (Lib.hid (Loc.cnt_hi R y _ (by omega) (by omega))) w
    · exact spec_year_01 R y _ hR h2 b1 hL (by omega) (Lib.hid C1) (Lib.hid C2) (Lib.hid C3) (Lib.hid (Loc.cnt_lo R y _ (by omega) (by omega)).symm) (Lib.hid (Loc.cnt_hi R y _ (by omega) (by omega))) w
  · exact spec_year_10 R y _ hR h2 b1 (by omega) (by omega) (Lib.hid C1) (Lib.hid C2) (Lib.hid C3) (Lib.hid (Loc.cnt_lo R y _ (by omega) (by omega)).symm) (Lib.hid (Loc.cnt_hi R y _ (by omega) (by omega))) w

set_option maxHeartbeats 400000 in
theorem spec_year_no1 (R y : Int) (hc : icB R = false) (w : World) :
    Calls Try.prog 50 #[.agg #[.int .i64 R], .int .i64 y] w (Two 0 1 w) := by
  have C1 := Lib.hid (spec_isCal R)
  rw [hc] at C1
  clear hc
  go_enter Try.func50, Try.ntmps50
  go_wp2_with fail
  refine (C1.out _).mono ?_
  rintro e w1 ⟨rfl, hb⟩
  have S := ((St.start w).alloc 35 #[.int .i64 R]).call hb
  go_wp2_with fail
  go_ret2
  exact ⟨rfl, S.bel⟩

set_option maxHeartbeats 400000 in
theorem spec_year_no2 (R y : Int) (hc : icB R = true) (hy : ¬ (1 ≤ y ∧ y ≤ 2000)) (w : World) :
    Calls Try.prog 50 #[.agg #[.int .i64 R], .int .i64 y] w (Two 0 2 w) := by
  have C1 := Lib.hid (spec_isCal R)
  rw [hc] at C1
  have C2 := Lib.hid (spec_in y 1 2000)
  rw [inB_false hy] at C2
  clear hc hy
  go_enter Try.func50, Try.ntmps50
  go_wp2_with fail
  refine (C1.out _).mono ?_
  rintro e w1 ⟨rfl, hb⟩
  have S := ((St.start w).alloc 35 #[.int .i64 R]).call hb
  go_wp2_with fail
  refine (C2.out _).mono ?_
  rintro e w2 ⟨rfl, rfl⟩
  go_wp2_with fail
  go_ret2
  exact ⟨rfl, S.bel⟩

theorem spec_DaysOfYear (R y : Int) (w : World) :
    Calls Try.prog 50 #[.agg #[.int .i64 R], .int .i64 y] w (Two (Loc.yNum R y) (Loc.yErr R y) w) := by
  by_cases hc : icB R = true
  · have hcal : Loc.isCal R := of_decide_eq_true hc
    have hbd := Loc.isCal_bd hcal
    by_cases hy : 1 ≤ y ∧ y ≤ 2000
    · have h : Loc.isCal R ∧ 1 ≤ y ∧ y ≤ 2000 := ⟨hcal, hy⟩
      exact (spec_year_yes R y hc (by omega) hy.1 hy.2 w).mono fun e w' k => two_eq k (by unfold Loc.yNum; rw [if_pos h]) (by unfold Loc.yErr; rw [if_pos hcal, if_pos hy])
    · exact (spec_year_no2 R y hc hy w).mono fun e w' k => two_eq k (by unfold Loc.yNum; rw [if_neg (fun h => hy h.2)]) (by unfold Loc.yErr; rw [if_pos hcal, if_neg hy])
  · have hcal : ¬ Loc.isCal R := fun h => hc (decide_eq_true h)
    exact (spec_year_no1 R y (by simpa using hc) w).mono fun e w' k => two_eq k (by unfold Loc.yNum; rw [if_neg (fun h => hcal h.1)]) (by unfold Loc.yErr; rw [if_neg hcal])

end Go.Proofs.Ytkmkfpglnmpnmaa.Plc
