/- The walk of the law on old dates and days. -/
import Derived.Test.YtkmkfpglnmpnmaaLawB
import Derived.Test.YtkmkfpglnmpnmaaDraw5
import Derived.Test.YtkmkfpglnmpnmaaSt
namespace Go.Proofs.Ytkmkfpglnmpnmaa
open Go.RowKit

set_option maxHeartbeats 400000 in
theorem laws_big (A : Option Addr) (len cap : Nat) (hm : len ≤ maxLen) (w : World) :
    Calls Try.prog 24 #[.slice A len cap] w fun e w' => e = .returned (.bool (decide (4096 < len))) ∧ w = w' := by
  unfold maxLen at hm
  go_enter Try.func24, Try.ntmps24
  go_wp2_with fail
  go_ret
  exact ⟨ret_bool (by simp; try omega), rfl⟩

set_option maxRecDepth 100000 in
set_option maxHeartbeats 2000000 in
theorem walk_FnDays (A : Option Addr) (len cap : Nat) (zs : List Int) (W : World) (hrow : IsRow .u8 W A len cap zs) :
    Calls Try.prog 3 #[.slice A len cap] W (Bl true W) := by
  have hm : len ≤ maxLen := by
    rcases hrow with ⟨_, rfl, _⟩ | ⟨_, _, h1, h2, _⟩
    · exact Nat.zero_le _
    · omega
  have HR := Lib.hid hrow
  clear hrow
  have S := St.start W
  by_cases hbig : 4096 < len
  · go_enter Try.func3, Try.ntmps3
    go_wp2_with fail
    refine (laws_big A len cap hm _).mono ?_
    rintro e w1 ⟨rfl, rfl⟩
    go_wp2_with fail
    go_ret
    exact ⟨rfl, Below.refl _ _⟩
  · go_enter Try.func3, Try.ntmps3
    go_wp2_with fail
    refine (laws_big A len cap hm _).mono ?_
    rintro e w1 ⟨rfl, rfl⟩
    go_wp2_with fail
    refine (spec_DrawOldDay A len cap zs W _ HR.out S.bel).mono ?_
    rintro e w1 ⟨y, m, d, rfl, hy, hmm, hd, hb⟩
    have S1 := (S.call hb).alloc 25 #[.int .i64 y, .int .i64 m, .int .i64 d]
    clear S hb hy hmm hd
    go_wp2_with fail
    generalize w1.heap.size = D3 at S1 ⊢
    refine (impl_OldDay y m d _).mono ?_
    rintro e w2 ⟨rfl, hb2⟩
    have S2 := S1.call hb2
    obtain ⟨c0, c1, c2⟩ := S2.b0.three
    clear S1 hb2
    go_wp2_with fail
    refine (spec_OldDay y m d _).mono ?_
    rintro e w3 ⟨rfl, hb3⟩
    have S3 := S2.call hb3
    clear S2 hb3 c0 c1 c2
    go_wp2_with fail
    refine (spec_DrawOldDate A len cap zs W _ HR.out S3.bel).mono ?_
    rintro e w4 ⟨k, rfl, hk, hb4⟩
    have S4 := S3.call hb4
    clear S3 hb4
    go_wp2_with fail
    refine (impl_OldDate k _).mono ?_
    rintro e w5 ⟨y1, m1, d1, q1, rfl, hd1, hb5⟩
    have HD := Lib.hid hd1
    have S5 := (S4.call hb5).alloc 25 #[.int .i64 y1, .int .i64 m1, .int .i64 d1]
    clear S4 hb5 hd1
    go_wp2_with fail
    generalize w5.heap.size = D9 at S5 ⊢
    refine (spec_OldDate k _).mono ?_
    rintro e w6 ⟨y2, m2, d2, q2, rfl, hd2, hb6⟩
    obtain ⟨rfl, rfl, rfl, rfl⟩ := HD.out.uniq hd2
    have S6 := (S5.call hb6).alloc 25 #[.int .i64 y1, .int .i64 m1, .int .i64 d1]
    clear S5 hb6 hd2
    go_wp2_with fail
    generalize w6.heap.size = D11 at S6 ⊢
    refine (spec_DrawWeekdayOf A len cap zs W _ HR.out S6.bel).mono ?_
    rintro e w7 ⟨j, rfl, hj, hb7⟩
    have S7 := S6.call hb7
    clear S6 hb7
    go_wp2_with fail
    refine (impl_WeekdayOf j _).mono ?_
    rintro e w8 ⟨rfl, hb8⟩
    have S8 := S7.call hb8
    clear S7 hb8
    go_wp2_with fail
    refine (spec_WeekdayOf j _).mono ?_
    rintro e w9 ⟨rfl, hb9⟩
    have S9 := S8.call hb9
    clear S8 hb9
    obtain ⟨c0, c1, c2⟩ := S9.b0.three
    obtain ⟨f0, f1, f2⟩ := S9.b1.three
    obtain ⟨g0, g1, g2⟩ := S9.b2.three
    go_wp2_with fail
    have hV : (vb false y m d = true ∧ dayErr false y m d = 0 ∧ DateIs false (dayNum false y m d) y m d 0) ∨ (vb false y m d = false ∧ dayErr false y m d = 1) := by
      by_cases hv : Cal.valid false y m d
      · refine .inl ⟨vb_true hv, by simp [dayErr, hv], ?_⟩
        have hr := Cal.num_range false hv
        rw [show dayNum false y m d = Cal.num false y m d by simp [dayNum, hv]]
        exact .inl ⟨hr.1, hr.2, rfl, hv, rfl⟩
      · exact .inr ⟨vb_false hv, by simp [dayErr, hv]⟩
    have hQ : (q1 = 0 ∧ dayNum false y1 m1 d1 = k ∧ dayErr false y1 m1 d1 = 0) ∨ q1 = 2 := by
      rcases HD.out with ⟨_, _, h, hv, hn⟩ | ⟨_, h, _⟩
      · exact .inl ⟨h, by simp [dayNum, hv, hn], by simp [dayErr, hv]⟩
      · exact .inr h
    have hK : (wkErr j = 0 ∧ ¬ j + 7 ≤ 730499) ∨ (wkErr j = 0 ∧ j + 7 ≤ 730499 ∧ wkErr (j + 7) = 0 ∧ wkNum (j + 7) = wkNum j ∧ wkErr (j + 1) = 0 ∧ wkNum (j + 1) = (wkNum j + 1) % 7) ∨ wkErr j = 2 := by
      unfold wkErr wkNum
      by_cases h1 : 0 ≤ j ∧ j ≤ 730499
      · by_cases h2 : j + 7 ≤ 730499
        · refine .inr (.inl ⟨by simp [h1], h2, ?_, ?_, ?_, ?_⟩)
          · rw [if_pos ⟨by omega, h2⟩]
          · rw [if_pos ⟨by omega, h2⟩, if_pos h1]; omega
          · rw [if_pos ⟨by omega, by omega⟩]
          · rw [if_pos ⟨by omega, by omega⟩, if_pos h1]; omega
        · exact .inl ⟨by simp [h1], h2⟩
      · exact .inr (.inr (by rw [if_neg h1]))
    have hwb : 0 ≤ wkNum j ∧ wkNum j ≤ 6 := by
      unfold wkNum
      split <;> omega
    have hjb : -1 ≤ j ∧ j ≤ 730500 := hj
    clear hj hk
    have HK := Lib.hid hK
    have HQ := Lib.hid hQ
    have HV := Lib.hid hV
    clear hK hQ hV
    rcases HV.out with ⟨eV, eE, hu⟩ | ⟨eV, eE⟩
    · clear HV
      have HU := Lib.hid hu
      clear hu
      rcases HQ.out with ⟨rfl, eN1, eE1⟩ | rfl
      · clear HQ HD
        rcases HK.out with ⟨eK, hj7⟩ | ⟨eK, hj7, eK7, eW7, eK1, eW1⟩ | eK
        · clear HK
          refine (impl_IsOldDate y m d _).mono ?_
          rintro e w10 ⟨rfl, hb10⟩
          have S10 := S9.call hb10
          clear c0 c1 c2 f0 f1 f2 g0 g1 g2
          obtain ⟨f0, f1, f2⟩ := S10.b1.three
          go_wp2_with fail
          refine (impl_OldDay y1 m1 d1 _).mono ?_
          rintro e w11 ⟨rfl, hb11⟩
          have S11 := S10.call hb11
          go_wp2_with fail
          refine (impl_OldDate (dayNum false y m d) _).mono ?_
          rintro e w12 ⟨y3, m3, d3, q3, rfl, hd3, hb12⟩
          obtain ⟨rfl, rfl, rfl, rfl⟩ := HU.out.uniq hd3
          have S13 := (S11.call hb12).alloc 25 #[.int .i64 y, .int .i64 m, .int .i64 d]
          clear HU hd3
          obtain ⟨g0, g1, g2⟩ := S13.b3.three
          go_wp2_with fail
          go_ret
          exact ⟨rfl, S13.bel⟩
        · clear HK
          refine (impl_IsOldDate y m d _).mono ?_
          rintro e w10 ⟨rfl, hb10⟩
          have S10 := S9.call hb10
          clear c0 c1 c2 f0 f1 f2 g0 g1 g2
          obtain ⟨f0, f1, f2⟩ := S10.b1.three
          go_wp2_with fail
          refine (impl_WeekdayOf (j + 7) _).mono ?_
          rintro e w11 ⟨rfl, hb11⟩
          have S11 := S10.call hb11
          clear f0 f1 f2
          obtain ⟨f0, f1, f2⟩ := S11.b1.three
          go_wp2_with fail
          refine (impl_WeekdayOf (j + 1) _).mono ?_
          rintro e w12 ⟨rfl, hb12⟩
          have S12 := S11.call hb12
          clear f0 f1 f2
          obtain ⟨f0, f1, f2⟩ := S12.b1.three
          go_wp2_with fail
          refine (impl_OldDay y1 m1 d1 _).mono ?_
          rintro e w13 ⟨rfl, hb13⟩
          have S13 := S12.call hb13
          go_wp2_with fail
          refine (impl_OldDate (dayNum false y m d) _).mono ?_
          rintro e w14 ⟨y3, m3, d3, q3, rfl, hd3, hb14⟩
          obtain ⟨rfl, rfl, rfl, rfl⟩ := HU.out.uniq hd3
          have S15 := (S13.call hb14).alloc 25 #[.int .i64 y, .int .i64 m, .int .i64 d]
          clear HU hd3
          obtain ⟨g0, g1, g2⟩ := S15.b3.three
          go_wp2_with fail
          go_ret
          exact ⟨rfl, S15.bel⟩
        · clear HK
          refine (impl_IsOldDate y m d _).mono ?_
          rintro e w10 ⟨rfl, hb10⟩
          have S10 := S9.call hb10
          clear c0 c1 c2 f0 f1 f2 g0 g1 g2
          obtain ⟨f0, f1, f2⟩ := S10.b1.three
          go_wp2_with fail
          refine (impl_OldDay y1 m1 d1 _).mono ?_
          rintro e w11 ⟨rfl, hb11⟩
          have S11 := S10.call hb11
          go_wp2_with fail
          refine (impl_OldDate (dayNum false y m d) _).mono ?_
          rintro e w12 ⟨y3, m3, d3, q3, rfl, hd3, hb12⟩
          obtain ⟨rfl, rfl, rfl, rfl⟩ := HU.out.uniq hd3
          have S13 := (S11.call hb12).alloc 25 #[.int .i64 y, .int .i64 m, .int .i64 d]
          clear HU hd3
          obtain ⟨g0, g1, g2⟩ := S13.b3.three
          go_wp2_with fail
          go_ret
          exact ⟨rfl, S13.bel⟩
      · clear HQ HD
        rcases HK.out with ⟨eK, hj7⟩ | ⟨eK, hj7, eK7, eW7, eK1, eW1⟩ | eK
        · clear HK
          refine (impl_IsOldDate y m d _).mono ?_
          rintro e w10 ⟨rfl, hb10⟩
          have S10 := S9.call hb10
          clear c0 c1 c2 f0 f1 f2 g0 g1 g2
          obtain ⟨f0, f1, f2⟩ := S10.b1.three
          go_wp2_with fail
          refine (impl_OldDate (dayNum false y m d) _).mono ?_
          rintro e w11 ⟨y3, m3, d3, q3, rfl, hd3, hb11⟩
          obtain ⟨rfl, rfl, rfl, rfl⟩ := HU.out.uniq hd3
          have S12 := (S10.call hb11).alloc 25 #[.int .i64 y, .int .i64 m, .int .i64 d]
          clear HU hd3
          obtain ⟨g0, g1, g2⟩ := S12.b3.three
          go_wp2_with fail
          go_ret
          exact ⟨rfl, S12.bel⟩
        · clear HK
          refine (impl_IsOldDate y m d _).mono ?_
          rintro e w10 ⟨rfl, hb10⟩
          have S10 := S9.call hb10
          clear c0 c1 c2 f0 f1 f2 g0 g1 g2
          obtain ⟨f0, f1, f2⟩ := S10.b1.three
          go_wp2_with fail
          refine (impl_WeekdayOf (j + 7) _).mono ?_
          rintro e w11 ⟨rfl, hb11⟩
          have S11 := S10.call hb11
          clear f0 f1 f2
          obtain ⟨f0, f1, f2⟩ := S11.b1.three
          go_wp2_with fail
          refine (impl_WeekdayOf (j + 1) _).mono ?_
          rintro e w12 ⟨rfl, hb12⟩
          have S12 := S11.call hb12
          clear f0 f1 f2
          obtain ⟨f0, f1, f2⟩ := S12.b1.three
          go_wp2_with fail
          refine (impl_OldDate (dayNum false y m d) _).mono ?_
          rintro e w13 ⟨y3, m3, d3, q3, rfl, hd3, hb13⟩
          obtain ⟨rfl, rfl, rfl, rfl⟩ := HU.out.uniq hd3
          have S14 := (S12.call hb13).alloc 25 #[.int .i64 y, .int .i64 m, .int .i64 d]
          clear HU hd3
          obtain ⟨g0, g1, g2⟩ := S14.b3.three
          go_wp2_with fail
          go_ret
          exact ⟨rfl, S14.bel⟩
        · clear HK
          refine (impl_IsOldDate y m d _).mono ?_
          rintro e w10 ⟨rfl, hb10⟩
          have S10 := S9.call hb10
          clear c0 c1 c2 f0 f1 f2 g0 g1 g2
          obtain ⟨f0, f1, f2⟩ := S10.b1.three
          go_wp2_with fail
          refine (impl_OldDate (dayNum false y m d) _).mono ?_
          rintro e w11 ⟨y3, m3, d3, q3, rfl, hd3, hb11⟩
          obtain ⟨rfl, rfl, rfl, rfl⟩ := HU.out.uniq hd3
          have S12 := (S10.call hb11).alloc 25 #[.int .i64 y, .int .i64 m, .int .i64 d]
          clear HU hd3
          obtain ⟨g0, g1, g2⟩ := S12.b3.three
          go_wp2_with fail
          go_ret
          exact ⟨rfl, S12.bel⟩
    · clear HV
      rcases HQ.out with ⟨rfl, eN1, eE1⟩ | rfl
      · clear HQ HD
        rcases HK.out with ⟨eK, hj7⟩ | ⟨eK, hj7, eK7, eW7, eK1, eW1⟩ | eK
        · clear HK
          refine (impl_IsOldDate y m d _).mono ?_
          rintro e w10 ⟨rfl, hb10⟩
          have S10 := S9.call hb10
          clear c0 c1 c2 f0 f1 f2 g0 g1 g2
          obtain ⟨f0, f1, f2⟩ := S10.b1.three
          go_wp2_with fail
          refine (impl_OldDay y1 m1 d1 _).mono ?_
          rintro e w11 ⟨rfl, hb11⟩
          have S11 := S10.call hb11
          go_wp2_with fail
          go_ret
          exact ⟨rfl, S11.bel⟩
        · clear HK
          refine (impl_IsOldDate y m d _).mono ?_
          rintro e w10 ⟨rfl, hb10⟩
          have S10 := S9.call hb10
          clear c0 c1 c2 f0 f1 f2 g0 g1 g2
          obtain ⟨f0, f1, f2⟩ := S10.b1.three
          go_wp2_with fail
          refine (impl_WeekdayOf (j + 7) _).mono ?_
          rintro e w11 ⟨rfl, hb11⟩
          have S11 := S10.call hb11
          clear f0 f1 f2
          obtain ⟨f0, f1, f2⟩ := S11.b1.three
          go_wp2_with fail
          refine (impl_WeekdayOf (j + 1) _).mono ?_
          rintro e w12 ⟨rfl, hb12⟩
          have S12 := S11.call hb12
          clear f0 f1 f2
          obtain ⟨f0, f1, f2⟩ := S12.b1.three
          go_wp2_with fail
          refine (impl_OldDay y1 m1 d1 _).mono ?_
          rintro e w13 ⟨rfl, hb13⟩
          have S13 := S12.call hb13
          go_wp2_with fail
          go_ret
          exact ⟨rfl, S13.bel⟩
        · clear HK
          refine (impl_IsOldDate y m d _).mono ?_
          rintro e w10 ⟨rfl, hb10⟩
          have S10 := S9.call hb10
          clear c0 c1 c2 f0 f1 f2 g0 g1 g2
          obtain ⟨f0, f1, f2⟩ := S10.b1.three
          go_wp2_with fail
          refine (impl_OldDay y1 m1 d1 _).mono ?_
          rintro e w11 ⟨rfl, hb11⟩
          have S11 := S10.call hb11
          go_wp2_with fail
          go_ret
          exact ⟨rfl, S11.bel⟩
      · clear HQ HD
        rcases HK.out with ⟨eK, hj7⟩ | ⟨eK, hj7, eK7, eW7, eK1, eW1⟩ | eK
        · clear HK
          refine (impl_IsOldDate y m d _).mono ?_
          rintro e w10 ⟨rfl, hb10⟩
          have S10 := S9.call hb10
          clear c0 c1 c2 f0 f1 f2 g0 g1 g2
          obtain ⟨f0, f1, f2⟩ := S10.b1.three
          go_wp2_with fail
          go_ret
          exact ⟨rfl, S10.bel⟩
        · clear HK
          refine (impl_IsOldDate y m d _).mono ?_
          rintro e w10 ⟨rfl, hb10⟩
          have S10 := S9.call hb10
          clear c0 c1 c2 f0 f1 f2 g0 g1 g2
          obtain ⟨f0, f1, f2⟩ := S10.b1.three
          go_wp2_with fail
          refine (impl_WeekdayOf (j + 7) _).mono ?_
          rintro e w11 ⟨rfl, hb11⟩
          have S11 := S10.call hb11
          clear f0 f1 f2
          obtain ⟨f0, f1, f2⟩ := S11.b1.three
          go_wp2_with fail
          refine (impl_WeekdayOf (j + 1) _).mono ?_
          rintro e w12 ⟨rfl, hb12⟩
          have S12 := S11.call hb12
          clear f0 f1 f2
          obtain ⟨f0, f1, f2⟩ := S12.b1.three
          go_wp2_with fail
          go_ret
          exact ⟨rfl, S12.bel⟩
        · clear HK
          refine (impl_IsOldDate y m d _).mono ?_
          rintro e w10 ⟨rfl, hb10⟩
          have S10 := S9.call hb10
          clear c0 c1 c2 f0 f1 f2 g0 g1 g2
          obtain ⟨f0, f1, f2⟩ := S10.b1.three
          go_wp2_with fail
          go_ret
          exact ⟨rfl, S10.bel⟩

end Go.Proofs.Ytkmkfpglnmpnmaa
