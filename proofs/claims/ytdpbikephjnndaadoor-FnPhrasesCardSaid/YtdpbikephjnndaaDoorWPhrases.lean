/- The walk of the law FnPhrases: made by gen_wphrases.py. -/
import Derived.Test.YtdpbikephjnndaaDoorWrdN
namespace Go.Proofs.YtdpbikephjnndaaDoor.Wrd
open Go.RowKit

set_option maxRecDepth 100000 in
set_option maxHeartbeats 16000000 in
theorem walk_FnPhrases (A : Option Addr) (len cap : Nat) (zs : List Int) (W : World) (hrow : IsRow .u8 W A len cap zs) (hM : Mx W) :
    Calls Tryd.prog 3 #[.slice A len cap] W (Bl true W) := by
  have hm : len ≤ maxLen := by
    rcases hrow with ⟨_, rfl, _⟩ | ⟨_, _, h1, h2, _⟩
    · exact Nat.zero_le _
    · omega
  have HR := Lib.hid hrow
  clear hrow
  have bel := Below.refl W.heap.size W
  by_cases hbig : 4096 < len
  · go_enter Tryd.func3, Tryd.ntmps3
    go_wp2_with fail
    refine (laws_big A len cap hm _).mono ?_
    rintro e w1 ⟨rfl, rfl⟩
    go_wp2_with fail
    go_ret
    exact ⟨rfl, Below.refl _ _⟩
  go_enter Tryd.func3, Tryd.ntmps3
  go_wp2_with fail
  refine (laws_big A len cap hm _).mono ?_
  rintro e w1 ⟨rfl, rfl⟩
  go_wp2_with fail
  refine (spec_DrawPhraseText A len cap zs W _ HR.out bel).mono ?_
  rintro e9 wq ⟨A3, c3, ps, rfl, hps, l3, r3, hb⟩
  replace bel := bel.trans (hb.mono bel.size)
  clear hb
  have n3 := hps.1
  obtain ⟨t, ce, lt, I1, S1, H1⟩ := ph_pack A3 c3 ps hps l3
  clear hps l3
  go_wp2_with fail
  refine (I1.out _ r3).mono ?_
  rintro e9 wq ⟨rfl, hb⟩
  replace bel := bel.trans (hb.mono bel.size)
  replace r3 := r3.below hb
  clear hb
  go_wp2_with fail
  refine (S1.out _ r3).mono ?_
  rintro e9 wq ⟨rfl, hb⟩
  replace bel := bel.trans (hb.mono bel.size)
  replace r3 := r3.below hb
  clear hb
  clear I1 S1
  go_wp2_with fail
  refine (spec_DrawSplitPhrase A len cap zs W _ HR.out bel).mono ?_
  rintro e9 wq ⟨s, rfl, ls, hb⟩
  replace bel := bel.trans (hb.mono bel.size)
  replace r3 := r3.below hb
  clear hb
  obtain ⟨xs, ce2, lx, I2, S2, H2⟩ := sp_pack s ls
  clear ls
  go_wp2_with fail
  refine (I2.out _ (hM.below bel)).mono ?_
  rintro e9 wq ⟨v, rfl, own, hb⟩
  replace bel := bel.trans (hb.mono bel.size)
  replace r3 := r3.below hb
  clear hb
  obtain ⟨A5, c5, rfl, l5, r5⟩ := own_rdS own
  clear own
  go_wp2_with fail
  refine (S2.out _).mono ?_
  rintro e9 wq ⟨v, rfl, own, hb⟩
  replace bel := bel.trans (hb.mono bel.size)
  replace r3 := r3.below hb
  replace r5 := r5.below hb
  clear hb
  obtain ⟨A6, c6, rfl, -, r6⟩ := own_rdS own
  clear own
  clear I2 S2
  go_wp2_with fail
  refine (spec_DrawSharedWords A len cap zs W _ HR.out bel).mono ?_
  rintro e9 wq ⟨A7, c7, xa, A8, c8, xb, rfl, ha, hb', r7, r8, hb⟩
  replace bel := bel.trans (hb.mono bel.size)
  replace r3 := r3.below hb
  replace r5 := r5.below hb
  replace r6 := r6.below hb
  clear hb
  have n7 := ha.1
  have n8 := hb'.1
  obtain ⟨n, ce3, I3, S3, H3⟩ := sh_pack A7 A8 c7 c8 xa xb ha hb'
  clear ha hb'
  go_wp2_with fail
  refine (I3.out _ r7 r8).mono ?_
  rintro e9 wq ⟨rfl, hb⟩
  replace bel := bel.trans (hb.mono bel.size)
  replace r3 := r3.below hb
  replace r5 := r5.below hb
  replace r6 := r6.below hb
  replace r7 := r7.below hb
  replace r8 := r8.below hb
  clear hb
  go_wp2_with fail
  refine (S3.out _ r7 r8).mono ?_
  rintro e9 wq ⟨rfl, hb⟩
  replace bel := bel.trans (hb.mono bel.size)
  replace r3 := r3.below hb
  replace r5 := r5.below hb
  replace r6 := r6.below hb
  replace r7 := r7.below hb
  replace r8 := r8.below hb
  clear hb
  clear I3 S3
  go_wp2_with fail
  refine (laws_likeS A5 A6 c5 c6 xs lx _ r5 r6).mono ?_
  rintro e9 wq ⟨rfl, hb⟩
  replace bel := bel.trans (hb.mono bel.size)
  replace r3 := r3.below hb
  replace r5 := r5.below hb
  replace r7 := r7.below hb
  replace r8 := r8.below hb
  clear hb
  clear r6
  rcases H2.out with h2 | ⟨rfl, I7⟩
  · have q2 : (ce2 == 0) = false := by simpa using h2
    clear H2 h2 r5
    rcases H3.out with rfl | ⟨rfl, I4, I5, m0, m1, m2⟩
    · clear H3 r7 r8
      rcases H1.out with rfl | ⟨rfl, I6⟩
      · go_wp2_with fail
        go_ret
        exact ⟨by first | rfl | (simp; done), bel⟩
      · replace I6 := Lib.hid I6
        clear H1
        go_wp2_with fail
        refine (I6.out _ (hM.below bel)).mono ?_
        rintro e9 wq ⟨v, rfl, own, hb⟩
        replace bel := bel.trans (hb.mono bel.size)
        replace r3 := r3.below hb
        clear hb
        obtain ⟨A9, c9, rfl, -, r9⟩ := own_rdS own
        clear own I6
        go_wp2_with fail
        refine (laws_likeS A9 A3 c9 c3 ps (by omega) _ r9 r3).mono ?_
        rintro e9 wq ⟨rfl, hb⟩
        replace bel := bel.trans (hb.mono bel.size)
        clear hb
        go_wp2_with fail
        go_ret
        exact ⟨by first | rfl | (simp; done), bel⟩
    · replace I4 := Lib.hid I4
      replace I5 := Lib.hid I5
      clear H3
      go_wp2_with fail
      refine (I4.out _ r7 r8).mono ?_
      rintro e9 wq ⟨rfl, hb⟩
      replace bel := bel.trans (hb.mono bel.size)
      replace r3 := r3.below hb
      replace r7 := r7.below hb
      clear hb
      go_wp2_with fail
      refine (I5.out _ r7).mono ?_
      rintro e9 wq ⟨rfl, hb⟩
      replace bel := bel.trans (hb.mono bel.size)
      replace r3 := r3.below hb
      clear hb
      clear I4 I5 r7 r8
      by_cases hml : xb.length < xa.length
      · have m3 : ¬ (xb.length : Int) < n := by omega
        rcases H1.out with rfl | ⟨rfl, I6⟩
        · go_wp2_with fail
          go_ret
          exact ⟨by first | rfl | (simp; done), bel⟩
        · replace I6 := Lib.hid I6
          clear H1
          go_wp2_with fail
          refine (I6.out _ (hM.below bel)).mono ?_
          rintro e9 wq ⟨v, rfl, own, hb⟩
          replace bel := bel.trans (hb.mono bel.size)
          replace r3 := r3.below hb
          clear hb
          obtain ⟨A9, c9, rfl, -, r9⟩ := own_rdS own
          clear own I6
          go_wp2_with fail
          refine (laws_likeS A9 A3 c9 c3 ps (by omega) _ r9 r3).mono ?_
          rintro e9 wq ⟨rfl, hb⟩
          replace bel := bel.trans (hb.mono bel.size)
          clear hb
          go_wp2_with fail
          go_ret
          exact ⟨by first | rfl | (simp; done), bel⟩
      · have m3 : ¬ (xa.length : Int) < n := by omega
        rcases H1.out with rfl | ⟨rfl, I6⟩
        · go_wp2_with fail
          go_ret
          exact ⟨by first | rfl | (simp; done), bel⟩
        · replace I6 := Lib.hid I6
          clear H1
          go_wp2_with fail
          refine (I6.out _ (hM.below bel)).mono ?_
          rintro e9 wq ⟨v, rfl, own, hb⟩
          replace bel := bel.trans (hb.mono bel.size)
          replace r3 := r3.below hb
          clear hb
          obtain ⟨A9, c9, rfl, -, r9⟩ := own_rdS own
          clear own I6
          go_wp2_with fail
          refine (laws_likeS A9 A3 c9 c3 ps (by omega) _ r9 r3).mono ?_
          rintro e9 wq ⟨rfl, hb⟩
          replace bel := bel.trans (hb.mono bel.size)
          clear hb
          go_wp2_with fail
          go_ret
          exact ⟨by first | rfl | (simp; done), bel⟩
  · replace I7 := Lib.hid I7
    clear H2
    go_wp2_with fail
    refine (I7.out _ _ _ l5 r5).mono ?_
    rintro e9 wq ⟨rfl, hb⟩
    replace bel := bel.trans (hb.mono bel.size)
    replace r3 := r3.below hb
    replace r7 := r7.below hb
    replace r8 := r8.below hb
    clear hb
    clear I7 r5
    rcases H3.out with rfl | ⟨rfl, I4, I5, m0, m1, m2⟩
    · clear H3 r7 r8
      rcases H1.out with rfl | ⟨rfl, I6⟩
      · go_wp2_with fail
        go_ret
        exact ⟨by first | rfl | (simp; done), bel⟩
      · replace I6 := Lib.hid I6
        clear H1
        go_wp2_with fail
        refine (I6.out _ (hM.below bel)).mono ?_
        rintro e9 wq ⟨v, rfl, own, hb⟩
        replace bel := bel.trans (hb.mono bel.size)
        replace r3 := r3.below hb
        clear hb
        obtain ⟨A9, c9, rfl, -, r9⟩ := own_rdS own
        clear own I6
        go_wp2_with fail
        refine (laws_likeS A9 A3 c9 c3 ps (by omega) _ r9 r3).mono ?_
        rintro e9 wq ⟨rfl, hb⟩
        replace bel := bel.trans (hb.mono bel.size)
        clear hb
        go_wp2_with fail
        go_ret
        exact ⟨by first | rfl | (simp; done), bel⟩
    · replace I4 := Lib.hid I4
      replace I5 := Lib.hid I5
      clear H3
      go_wp2_with fail
      refine (I4.out _ r7 r8).mono ?_
      rintro e9 wq ⟨rfl, hb⟩
      replace bel := bel.trans (hb.mono bel.size)
      replace r3 := r3.below hb
      replace r7 := r7.below hb
      clear hb
      go_wp2_with fail
      refine (I5.out _ r7).mono ?_
      rintro e9 wq ⟨rfl, hb⟩
      replace bel := bel.trans (hb.mono bel.size)
      replace r3 := r3.below hb
      clear hb
      clear I4 I5 r7 r8
      by_cases hml : xb.length < xa.length
      · have m3 : ¬ (xb.length : Int) < n := by omega
        rcases H1.out with rfl | ⟨rfl, I6⟩
        · go_wp2_with fail
          go_ret
          exact ⟨by first | rfl | (simp; done), bel⟩
        · replace I6 := Lib.hid I6
          clear H1
          go_wp2_with fail
          refine (I6.out _ (hM.below bel)).mono ?_
          rintro e9 wq ⟨v, rfl, own, hb⟩
          replace bel := bel.trans (hb.mono bel.size)
          replace r3 := r3.below hb
          clear hb
          obtain ⟨A9, c9, rfl, -, r9⟩ := own_rdS own
          clear own I6
          go_wp2_with fail
          refine (laws_likeS A9 A3 c9 c3 ps (by omega) _ r9 r3).mono ?_
          rintro e9 wq ⟨rfl, hb⟩
          replace bel := bel.trans (hb.mono bel.size)
          clear hb
          go_wp2_with fail
          go_ret
          exact ⟨by first | rfl | (simp; done), bel⟩
      · have m3 : ¬ (xa.length : Int) < n := by omega
        rcases H1.out with rfl | ⟨rfl, I6⟩
        · go_wp2_with fail
          go_ret
          exact ⟨by first | rfl | (simp; done), bel⟩
        · replace I6 := Lib.hid I6
          clear H1
          go_wp2_with fail
          refine (I6.out _ (hM.below bel)).mono ?_
          rintro e9 wq ⟨v, rfl, own, hb⟩
          replace bel := bel.trans (hb.mono bel.size)
          replace r3 := r3.below hb
          clear hb
          obtain ⟨A9, c9, rfl, -, r9⟩ := own_rdS own
          clear own I6
          go_wp2_with fail
          refine (laws_likeS A9 A3 c9 c3 ps (by omega) _ r9 r3).mono ?_
          rintro e9 wq ⟨rfl, hb⟩
          replace bel := bel.trans (hb.mono bel.size)
          clear hb
          go_wp2_with fail
          go_ret
          exact ⟨by first | rfl | (simp; done), bel⟩

end Go.Proofs.YtdpbikephjnndaaDoor.Wrd
