/- The walk of the law FnReforms. -/
import Derived.Test.YtkmkfpglnmpnmaaLawH
import Derived.Test.YtkmkfpglnmpnmaaLawI
import Derived.Test.YtkmkfpglnmpnmaaPlcJ
import Derived.Deep.RegionHeld3
namespace Go.Proofs.Ytkmkfpglnmpnmaa.Plc
open Go.RowKit

theorem same_cases (R y m d R' y' m' d' : Int) : (Loc.sErr R y m d R' y' m' d' = 0 ∧ Loc.sErr R' y' m' d' R y m d = 0 ∧ Loc.sB R' y' m' d' R y m d = Loc.sB R y m d R' y' m' d' ∧ Loc.sErr R y m d R y m d = 0 ∧ Loc.sB R y m d R y m d = true) ∨ Loc.sErr R y m d R' y' m' d' ≠ 0 := by
  by_cases h : Loc.isCal R ∧ Loc.isD y m d ∧ Loc.isCal R' ∧ Loc.isD y' m' d'
  · by_cases hl : Loc.isL R y m d ∧ Loc.isL R' y' m' d'
    · refine .inl ⟨?_, ?_, ?_, ?_, ?_⟩
      · unfold Loc.sErr; rw [if_pos h, if_pos hl]
      · unfold Loc.sErr; rw [if_pos ⟨h.2.2.1, h.2.2.2, h.1, h.2.1⟩, if_pos ⟨hl.2, hl.1⟩]
      · unfold Loc.sB
        congr 1
        apply propext
        exact ⟨fun ⟨a, b, c, d, e, f, g⟩ => ⟨c, d, a, b, f, e, g.symm⟩, fun ⟨a, b, c, d, e, f, g⟩ => ⟨c, d, a, b, f, e, g.symm⟩⟩
      · unfold Loc.sErr; rw [if_pos ⟨h.1, h.2.1, h.1, h.2.1⟩, if_pos ⟨hl.1, hl.1⟩]
      · exact decide_eq_true ⟨h.1, h.2.1, h.1, h.2.1, hl.1, hl.1, rfl⟩
    · refine .inr ?_
      unfold Loc.sErr; rw [if_pos h, if_neg hl]; omega
  · refine .inr ?_
    unfold Loc.sErr; rw [if_neg h]; omega

theorem year_cases (R y : Int) : (Loc.yErr R y = 0 ∧ Loc.yNum R y ≤ 366) ∨ Loc.yErr R y ≠ 0 := by
  by_cases h : Loc.isCal R
  · by_cases hy : 1 ≤ y ∧ y ≤ 2000
    · refine .inl ⟨?_, ?_⟩
      · unfold Loc.yErr; rw [if_pos h, if_pos hy]
      · unfold Loc.yNum; rw [if_pos ⟨h, hy⟩]; exact (Loc.ylen_bd R y h hy.1 hy.2).2
    · refine .inr ?_
      unfold Loc.yErr; rw [if_pos h, if_neg hy]; omega
  · refine .inr ?_
    unfold Loc.yErr; rw [if_neg h]; omega

set_option maxRecDepth 100000 in
set_option maxHeartbeats 4000000 in
theorem walk_FnReforms (A : Option Addr) (len cap : Nat) (zs : List Int) (W : World) (hrow : IsRow .u8 W A len cap zs) :
    Calls Try.prog 5 #[.slice A len cap] W (Bl true W) := by
  have hm : len ≤ maxLen := by
    rcases hrow with ⟨_, rfl, _⟩ | ⟨_, _, h1, h2, _⟩
    · exact Nat.zero_le _
    · omega
  have HR := Lib.hid hrow
  clear hrow
  have S := St.start W
  by_cases hbig : 4096 < len
  · go_enter Try.func5, Try.ntmps5
    go_wp2_with fail
    refine (laws_big A len cap hm _).mono ?_
    rintro e w1 ⟨rfl, rfl⟩
    go_wp2_with fail
    go_ret
    exact ⟨rfl, Below.refl _ _⟩
  go_enter Try.func5, Try.ntmps5
  go_wp2_with fail
  refine (laws_big A len cap hm _).mono ?_
  rintro e w1 ⟨rfl, rfl⟩
  go_wp2_with fail
  refine (spec_DrawSkippedDates A len cap zs W _ HR.out S.bel).mono ?_
  rintro e w1 ⟨R, rfl, hb1⟩
  have S := (S.call hb1).alloc 35 #[.int .i64 R]
  go_wp2_with fail
  generalize w1.heap.size = D3 at S ⊢
  refine (impl_SkippedDates R _).mono ?_
  rintro e w2 ⟨s, c, rfl, hs, hb2⟩
  have S := S.call hb2
  have HS := Lib.hid hs
  clear hs
  have c3 := S.b0.cell 0
  simp only [List.getElem?_toArray, List.getElem?_cons_zero] at c3
  go_wp2_with fail
  refine (spec_SkippedDates R _).mono ?_
  rintro e w3 ⟨s', c', rfl, hs', hb3⟩
  obtain ⟨rfl, rfl⟩ := HS.out.uniq hs'
  have S := S.call hb3
  clear c3 hs'
  go_wp2_with fail
  refine (spec_DrawDaysOfYear A len cap zs W _ HR.out S.bel).mono ?_
  rintro e w4 ⟨X, Y, rfl, hb4⟩
  have S := (S.call hb4).alloc 35 #[.int .i64 X]
  have CA := Lib.hid (impl_DaysOfYear X Y)
  have CB := Lib.hid (spec_DaysOfYear X Y)
  have HY := Lib.hid (year_cases X Y)
  generalize Loc.yNum X Y = n at CA CB HY
  generalize Loc.yErr X Y = E1 at CA CB HY
  go_wp2_with fail
  generalize w4.heap.size = D8 at S ⊢
  refine (CA.out _).mono ?_
  rintro e w5 ⟨rfl, hb5⟩
  have S := S.call hb5
  have c8 := S.b0.cell 0
  simp only [List.getElem?_toArray, List.getElem?_cons_zero] at c8
  go_wp2_with fail
  refine (CB.out _).mono ?_
  rintro e w6 ⟨rfl, hb6⟩
  have S := S.call hb6
  clear c8
  go_wp2_with fail
  refine (spec_DrawSameDay A len cap zs W _ HR.out S.bel).mono ?_
  rintro e w7 ⟨P, y, m, d, Q, y2, m2, d2, rfl, hb7⟩
  have S := ((((S.call hb7).alloc 35 #[.int .i64 P]).alloc 25 #[.int .i64 y, .int .i64 m, .int .i64 d]).alloc 35 #[.int .i64 Q]).alloc 25 #[.int .i64 y2, .int .i64 m2, .int .i64 d2]
  simp only [World.size_alloc] at S
  have CC := Lib.hid (impl_SameDay P y m d Q y2 m2 d2)
  have CD := Lib.hid (spec_SameDay P y m d Q y2 m2 d2)
  have CE := Lib.hid (impl_SameDay Q y2 m2 d2 P y m d)
  have CF := Lib.hid (impl_SameDay P y m d P y m d)
  have HZ := Lib.hid (same_cases P y m d Q y2 m2 d2)
  generalize Loc.sB P y m d Q y2 m2 d2 = V at CC CD HZ
  generalize Loc.sErr P y m d Q y2 m2 d2 = E3 at CC CD HZ
  go_wp2_with fail
  generalize w7.heap.size = D14 at S ⊢
  refine (CC.out _).mono ?_
  rintro e w8 ⟨rfl, hb8⟩
  have S := S.call hb8
  have c0 := S.b3.cell 0
  simp only [List.getElem?_toArray, List.getElem?_cons_zero] at c0
  obtain ⟨a0, a1, a2⟩ := S.b2.three
  have e0 := S.b1.cell 0
  simp only [List.getElem?_toArray, List.getElem?_cons_zero] at e0
  obtain ⟨b0, b1, b2⟩ := S.b0.three
  go_wp2_with fail
  refine (CD.out _).mono ?_
  rintro e w9 ⟨rfl, hb9⟩
  have S := S.call hb9
  clear c0 a0 a1 a2 e0 b0 b1 b2
  clear hb1 hb2 hb3 hb4 hb5 hb6 hb7 hb8 hb9
  have HC := Lib.hid HS.out.bd
  clear HS
  rcases HZ.out with ⟨rfl, h1, h2, h3, h4⟩ | h1
  · rw [h1, h2] at CE
    rw [h3, h4] at CF
    clear HZ h1 h2 h3 h4
    have c0 := S.b3.cell 0
    simp only [List.getElem?_toArray, List.getElem?_cons_zero] at c0
    obtain ⟨a0, a1, a2⟩ := S.b2.three
    have e0 := S.b1.cell 0
    simp only [List.getElem?_toArray, List.getElem?_cons_zero] at e0
    obtain ⟨b0, b1, b2⟩ := S.b0.three
    go_wp2_with fail
    refine (CE.out _).mono ?_
    rintro e w10 ⟨rfl, hb10⟩
    have S := S.call hb10
    clear c0 a0 a1 a2 e0 b0 b1 b2
    have c0 := S.b3.cell 0
    simp only [List.getElem?_toArray, List.getElem?_cons_zero] at c0
    obtain ⟨a0, a1, a2⟩ := S.b2.three
    have e0 := S.b1.cell 0
    simp only [List.getElem?_toArray, List.getElem?_cons_zero] at e0
    obtain ⟨b0, b1, b2⟩ := S.b0.three
    go_wp2_with fail
    refine (CF.out _).mono ?_
    rintro e w11 ⟨rfl, hb11⟩
    have S := S.call hb11
    clear c0 a0 a1 a2 e0 b0 b1 b2 hb10 hb11
    rcases HC.out with ⟨rfl, s1, s2⟩ | rfl | rfl
    · clear HC
      rcases HY.out with ⟨rfl, hn⟩ | hn
      · clear HY
        go_wp2_with fail
        go_ret
        exact ⟨ret_bool (by first | rfl | simp_all | (simp; omega)), S.bel⟩
      · clear HY
        go_wp2_with fail
        go_ret
        exact ⟨ret_bool (by first | rfl | simp_all | (simp; omega)), S.bel⟩
    · clear HC
      rcases HY.out with ⟨rfl, hn⟩ | hn
      · clear HY
        go_wp2_with fail
        go_ret
        exact ⟨ret_bool (by first | rfl | simp_all | (simp; omega)), S.bel⟩
      · clear HY
        go_wp2_with fail
        go_ret
        exact ⟨ret_bool (by first | rfl | simp_all | (simp; omega)), S.bel⟩
    · clear HC
      rcases HY.out with ⟨rfl, hn⟩ | hn
      · clear HY
        go_wp2_with fail
        go_ret
        exact ⟨ret_bool (by first | rfl | simp_all | (simp; omega)), S.bel⟩
      · clear HY
        go_wp2_with fail
        go_ret
        exact ⟨ret_bool (by first | rfl | simp_all | (simp; omega)), S.bel⟩
  · clear HZ
    rcases HC.out with ⟨rfl, s1, s2⟩ | rfl | rfl
    · clear HC
      rcases HY.out with ⟨rfl, hn⟩ | hn
      · clear HY
        go_wp2_with fail
        go_ret
        exact ⟨ret_bool (by first | rfl | simp_all | (simp; omega)), S.bel⟩
      · clear HY
        go_wp2_with fail
        go_ret
        exact ⟨ret_bool (by first | rfl | simp_all | (simp; omega)), S.bel⟩
    · clear HC
      rcases HY.out with ⟨rfl, hn⟩ | hn
      · clear HY
        go_wp2_with fail
        go_ret
        exact ⟨ret_bool (by first | rfl | simp_all | (simp; omega)), S.bel⟩
      · clear HY
        go_wp2_with fail
        go_ret
        exact ⟨ret_bool (by first | rfl | simp_all | (simp; omega)), S.bel⟩
    · clear HC
      rcases HY.out with ⟨rfl, hn⟩ | hn
      · clear HY
        go_wp2_with fail
        go_ret
        exact ⟨ret_bool (by first | rfl | simp_all | (simp; omega)), S.bel⟩
      · clear HY
        go_wp2_with fail
        go_ret
        exact ⟨ret_bool (by first | rfl | simp_all | (simp; omega)), S.bel⟩

end Go.Proofs.Ytkmkfpglnmpnmaa.Plc
