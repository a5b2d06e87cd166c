/- The walk of the law FnWords: made by gen_wwords.py. -/
import Derived.Test.YtdpbikephjnndaaWrdL
namespace Go.Proofs.Ytdpbikephjnndaa.Wrd
open Go.RowKit

set_option maxRecDepth 100000 in
set_option maxHeartbeats 16000000 in
theorem walk_FnWords (A : Option Addr) (len cap : Nat) (zs : List Int) (W : World) (hrow : IsRow .u8 W A len cap zs) :
    Calls Try.prog 3 #[.slice A len cap] W (Bl true W) := by
  have hm : len ≤ maxLen := by
    rcases hrow with ⟨_, rfl, _⟩ | ⟨_, _, h1, h2, _⟩
    · exact Nat.zero_le _
    · omega
  have HR := Lib.hid hrow
  clear hrow
  have bel := Below.refl W.heap.size W
  by_cases hbig : 4096 < len
  · go_enter Try.func3, Try.ntmps3
    go_wp2_with fail
    refine (laws_big A len cap hm _).mono ?_
    rintro e w1 ⟨rfl, rfl⟩
    go_wp2_with fail
    go_ret
    exact ⟨rfl, Below.refl _ _⟩
  go_enter Try.func3, Try.ntmps3
  go_wp2_with fail
  refine (laws_big A len cap hm _).mono ?_
  rintro e w1 ⟨rfl, rfl⟩
  go_wp2_with fail
  refine (spec_DrawWordDistance A len cap zs W _ HR.out bel).mono ?_
  rintro e9 wq ⟨a, b, rfl, la, lb, hb⟩
  replace bel := bel.trans (hb.mono bel.size)
  clear hb
  obtain ⟨d, ce, o, ⟨d0, d1⟩, I1, S1, I2, S2, H1⟩ := ab_pack a b la lb
  clear la lb
  go_wp2_with fail
  refine (I1.out _).mono ?_
  rintro e9 wq ⟨rfl, hb⟩
  replace bel := bel.trans (hb.mono bel.size)
  clear hb
  go_wp2_with fail
  refine (S1.out _).mono ?_
  rintro e9 wq ⟨rfl, hb⟩
  replace bel := bel.trans (hb.mono bel.size)
  clear hb
  go_wp2_with fail
  refine (I2.out _).mono ?_
  rintro e9 wq ⟨rfl, hb⟩
  replace bel := bel.trans (hb.mono bel.size)
  clear hb
  go_wp2_with fail
  refine (S2.out _).mono ?_
  rintro e9 wq ⟨rfl, hb⟩
  replace bel := bel.trans (hb.mono bel.size)
  clear hb
  clear I1 S1 I2 S2
  go_wp2_with fail
  refine (spec_DrawNormalWord A len cap zs W _ HR.out bel).mono ?_
  rintro e9 wq ⟨c, rfl, lc, hb⟩
  replace bel := bel.trans (hb.mono bel.size)
  clear hb
  obtain ⟨n, ce3, isw, I3, S3, IW, H3⟩ := c_pack c lc
  clear lc
  go_wp2_with fail
  refine (I3.out _).mono ?_
  rintro e9 wq ⟨rfl, hb⟩
  replace bel := bel.trans (hb.mono bel.size)
  clear hb
  go_wp2_with fail
  refine (S3.out _).mono ?_
  rintro e9 wq ⟨rfl, hb⟩
  replace bel := bel.trans (hb.mono bel.size)
  clear hb
  clear I3 S3
  go_wp2_with fail
  refine (spec_DrawNearestWord A len cap zs W _ HR.out bel).mono ?_
  rintro e9 wq ⟨s, A4, c4, ps, m, rfl, ls, hps, -, -, rd, hb⟩
  replace bel := bel.trans (hb.mono bel.size)
  clear hb
  obtain ⟨ix, k, ce4, I4, S4, H4⟩ := near_pack s ls A4 c4 ps hps m
  clear ls hps
  go_wp2_with fail
  refine (I4.out _ rd).mono ?_
  rintro e9 wq ⟨rfl, hb⟩
  replace bel := bel.trans (hb.mono bel.size)
  replace rd := rd.below hb
  clear hb
  go_wp2_with fail
  refine (S4.out _ rd).mono ?_
  rintro e9 wq ⟨rfl, hb⟩
  replace bel := bel.trans (hb.mono bel.size)
  clear hb
  clear I4 S4 rd
  rcases H3.out with ⟨rfl, rfl⟩ | ⟨rfl, rfl, wc⟩
  · clear H3
    go_wp2_with fail
    refine (IW.out _).mono ?_
    rintro e9 wq ⟨rfl, hb⟩
    replace bel := bel.trans (hb.mono bel.size)
    clear hb
    rcases H4.out with h4 | ⟨rfl, h4⟩
    · clear H4
      have q4 : (ce4 == 0) = false := by simpa using h4
      clear h4
      rcases H1.out with rfl | ⟨rfl, wa, wb, hd, ho⟩
      · clear H1
        go_wp2_with fail
        go_ret
        exact ⟨by first | rfl | (simp; done), bel⟩
      · clear H1
        obtain ⟨x, y, I5, I6, I7, HF⟩ := two_pack a b wa wb d hd o ho
        clear wa wb hd ho
        obtain ⟨F1, F2⟩ := HF.out
        clear HF
        have sx := str_toList x
        have sy := str_toList y
        have sa := str_toList a
        have sb := str_toList b
        subst F2
        go_wp2_with fail
        refine (I5.out _).mono ?_
        rintro e9 wq ⟨rfl, hb⟩
        replace bel := bel.trans (hb.mono bel.size)
        clear hb
        go_wp2_with fail
        refine (I6.out _).mono ?_
        rintro e9 wq ⟨rfl, hb⟩
        replace bel := bel.trans (hb.mono bel.size)
        clear hb
        go_wp2_with fail
        refine (I7.out _).mono ?_
        rintro e9 wq ⟨rfl, hb⟩
        replace bel := bel.trans (hb.mono bel.size)
        clear hb
        clear I5 I6 I7
        cases hab : (a == b) <;> cases hxy : (x == y) <;> rw [hab] at F1
        all_goals
          go_wp2_with fail
          refine (IW.out _).mono ?_
          rintro e9 wq ⟨rfl, hb⟩
          replace bel := bel.trans (hb.mono bel.size)
          clear hb
          clear IW
          go_wp2_with fail
          go_ret
          exact ⟨by first | rfl | (simp; done), bel⟩
    · clear H4
      rcases H1.out with rfl | ⟨rfl, wa, wb, hd, ho⟩
      · clear H1
        go_wp2_with fail
        go_ret
        exact ⟨by first | rfl | (simp; done), bel⟩
      · clear H1
        obtain ⟨x, y, I5, I6, I7, HF⟩ := two_pack a b wa wb d hd o ho
        clear wa wb hd ho
        obtain ⟨F1, F2⟩ := HF.out
        clear HF
        have sx := str_toList x
        have sy := str_toList y
        have sa := str_toList a
        have sb := str_toList b
        subst F2
        go_wp2_with fail
        refine (I5.out _).mono ?_
        rintro e9 wq ⟨rfl, hb⟩
        replace bel := bel.trans (hb.mono bel.size)
        clear hb
        go_wp2_with fail
        refine (I6.out _).mono ?_
        rintro e9 wq ⟨rfl, hb⟩
        replace bel := bel.trans (hb.mono bel.size)
        clear hb
        go_wp2_with fail
        refine (I7.out _).mono ?_
        rintro e9 wq ⟨rfl, hb⟩
        replace bel := bel.trans (hb.mono bel.size)
        clear hb
        clear I5 I6 I7
        cases hab : (a == b) <;> cases hxy : (x == y) <;> rw [hab] at F1
        all_goals
          go_wp2_with fail
          refine (IW.out _).mono ?_
          rintro e9 wq ⟨rfl, hb⟩
          replace bel := bel.trans (hb.mono bel.size)
          clear hb
          clear IW
          go_wp2_with fail
          go_ret
          exact ⟨by first | rfl | (simp; done), bel⟩
  · clear H3
    go_wp2_with fail
    refine (IW.out _).mono ?_
    rintro e9 wq ⟨rfl, hb⟩
    replace bel := bel.trans (hb.mono bel.size)
    clear hb
    rcases H4.out with h4 | ⟨rfl, h4⟩
    · clear H4
      have q4 : (ce4 == 0) = false := by simpa using h4
      clear h4
      rcases H1.out with rfl | ⟨rfl, wa, wb, hd, ho⟩
      · clear H1
        go_wp2_with fail
        go_ret
        exact ⟨by first | rfl | (simp; done), bel⟩
      · clear H1
        obtain ⟨x, y, I5, I6, I7, HF⟩ := two_pack a b wa wb d hd o ho
        obtain ⟨e, f, ⟨e0, e1, hf⟩, I8, I9⟩ := tri_pack a b c wa wb wc d hd
        clear wa wb hd ho
        obtain ⟨F1, F2⟩ := HF.out
        clear HF
        have sx := str_toList x
        have sy := str_toList y
        have sa := str_toList a
        have sb := str_toList b
        subst F2
        go_wp2_with fail
        refine (I5.out _).mono ?_
        rintro e9 wq ⟨rfl, hb⟩
        replace bel := bel.trans (hb.mono bel.size)
        clear hb
        go_wp2_with fail
        refine (I6.out _).mono ?_
        rintro e9 wq ⟨rfl, hb⟩
        replace bel := bel.trans (hb.mono bel.size)
        clear hb
        go_wp2_with fail
        refine (I7.out _).mono ?_
        rintro e9 wq ⟨rfl, hb⟩
        replace bel := bel.trans (hb.mono bel.size)
        clear hb
        clear I5 I6 I7
        cases hab : (a == b) <;> cases hxy : (x == y) <;> rw [hab] at F1
        all_goals
          go_wp2_with fail
          refine (IW.out _).mono ?_
          rintro e9 wq ⟨rfl, hb⟩
          replace bel := bel.trans (hb.mono bel.size)
          clear hb
          clear IW
          go_wp2_with fail
          refine (I8.out _).mono ?_
          rintro e9 wq ⟨rfl, hb⟩
          replace bel := bel.trans (hb.mono bel.size)
          clear hb
          go_wp2_with fail
          refine (I9.out _).mono ?_
          rintro e9 wq ⟨rfl, hb⟩
          replace bel := bel.trans (hb.mono bel.size)
          clear hb
          clear I8 I9
          go_wp2_with fail
          go_ret
          exact ⟨by first | rfl | (simp; omega), bel⟩
    · clear H4
      rcases H1.out with rfl | ⟨rfl, wa, wb, hd, ho⟩
      · clear H1
        go_wp2_with fail
        go_ret
        exact ⟨by first | rfl | (simp; done), bel⟩
      · clear H1
        obtain ⟨x, y, I5, I6, I7, HF⟩ := two_pack a b wa wb d hd o ho
        obtain ⟨e, f, ⟨e0, e1, hf⟩, I8, I9⟩ := tri_pack a b c wa wb wc d hd
        clear wa wb hd ho
        obtain ⟨F1, F2⟩ := HF.out
        clear HF
        have sx := str_toList x
        have sy := str_toList y
        have sa := str_toList a
        have sb := str_toList b
        subst F2
        go_wp2_with fail
        refine (I5.out _).mono ?_
        rintro e9 wq ⟨rfl, hb⟩
        replace bel := bel.trans (hb.mono bel.size)
        clear hb
        go_wp2_with fail
        refine (I6.out _).mono ?_
        rintro e9 wq ⟨rfl, hb⟩
        replace bel := bel.trans (hb.mono bel.size)
        clear hb
        go_wp2_with fail
        refine (I7.out _).mono ?_
        rintro e9 wq ⟨rfl, hb⟩
        replace bel := bel.trans (hb.mono bel.size)
        clear hb
        clear I5 I6 I7
        cases hab : (a == b) <;> cases hxy : (x == y) <;> rw [hab] at F1
        all_goals
          go_wp2_with fail
          refine (IW.out _).mono ?_
          rintro e9 wq ⟨rfl, hb⟩
          replace bel := bel.trans (hb.mono bel.size)
          clear hb
          clear IW
          go_wp2_with fail
          refine (I8.out _).mono ?_
          rintro e9 wq ⟨rfl, hb⟩
          replace bel := bel.trans (hb.mono bel.size)
          clear hb
          go_wp2_with fail
          refine (I9.out _).mono ?_
          rintro e9 wq ⟨rfl, hb⟩
          replace bel := bel.trans (hb.mono bel.size)
          clear hb
          clear I8 I9
          go_wp2_with fail
          go_ret
          exact ⟨by first | rfl | (simp; omega), bel⟩

end Go.Proofs.Ytdpbikephjnndaa.Wrd
