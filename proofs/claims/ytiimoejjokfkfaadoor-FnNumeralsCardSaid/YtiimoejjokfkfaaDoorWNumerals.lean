/- The walk of the law FnNumerals: made by gen_wnumerals.py. -/
import Derived.Test.YtiimoejjokfkfaaDoorNumS
namespace Go.Proofs.YtiimoejjokfkfaaDoor.Num
open Go.RowKit

set_option maxHeartbeats 400000 in
theorem laws_big (A : Option Addr) (len cap : Nat) (hm : len ≤ maxLen) (w : World) :
    Calls Tryd.prog 7 #[.slice A len cap] w fun e w' => e = .returned (.bool (decide (4096 < len))) ∧ w = w' := by
  unfold maxLen at hm
  go_enter Tryd.func7, Tryd.ntmps7
  go_wp2_with fail
  go_ret
  exact ⟨ret_bool (by simp; try omega), rfl⟩

set_option maxRecDepth 100000 in
set_option maxHeartbeats 16000000 in
theorem walk_FnNumerals (A : Option Addr) (len cap : Nat) (zs : List Int) (W : World) (hrow : IsRow .u8 W A len cap zs) (he : Env W) :
    Calls Tryd.prog 3 #[.slice A len cap] W (Bl true W) := by
  have hm : len ≤ maxLen := by
    rcases hrow with ⟨_, rfl, _⟩ | ⟨_, _, h1, h2, _⟩
    · exact Nat.zero_le _
    · omega
  have HR := Lib.hid hrow
  have HE := Lib.hid he
  clear hrow he
  have bel := Below.refl W.heap.size W
  by_cases hbig : 4096 < len
  · go_enter Tryd.func3, Tryd.ntmps3
    go_wp2_with fail
    refine (laws_big A len cap hm _).mono ?_
    rintro e w1 ⟨rfl, rfl⟩
    go_wp2_with fail
    go_ret
    exact ⟨rfl, Below.refl _ _⟩
  go_enter Tryd.func3, Tryd.ntmps3
  go_wp2_with fail
  refine (laws_big A len cap hm _).mono ?_
  rintro e w1 ⟨rfl, rfl⟩
  go_wp2_with fail
  refine (spec_DrawNumeralText A len cap zs W _ HR.out bel).mono ?_
  rintro e9 wq ⟨n, rfl, -, hb⟩
  replace bel := bel.trans (hb.mono bel.size)
  clear hb
  obtain ⟨a, b, c, E, I1, I2, I3, S3, S1, S2, H1⟩ := n_pack n
  go_wp2_with fail
  refine (I1.out _).mono ?_
  rintro e9 wq ⟨rfl, hb⟩
  replace bel := bel.trans (hb.mono bel.size)
  clear hb
  go_wp2_with fail
  refine (I2.out _).mono ?_
  rintro e9 wq ⟨rfl, hb⟩
  replace bel := bel.trans (hb.mono bel.size)
  clear hb
  go_wp2_with fail
  refine (I3.out _ (HE.out.below bel)).mono ?_
  rintro e9 wq ⟨rfl, hb⟩
  replace bel := bel.trans (hb.mono bel.size)
  clear hb
  go_wp2_with fail
  refine (S3.out _).mono ?_
  rintro e9 wq ⟨rfl, hb⟩
  replace bel := bel.trans (hb.mono bel.size)
  clear hb
  clear I1 I2 I3 S3
  go_wp2_with fail
  refine (spec_DrawReadNumeral A len cap zs W _ HR.out bel).mono ?_
  rintro e9 wq ⟨l, rfl, hl, hb⟩
  replace bel := bel.trans (hb.mono bel.size)
  clear hb
  obtain ⟨x, o, I4, S4, H4⟩ := s_pack l hl
  clear hl
  go_wp2_with fail
  refine (I4.out _ (HE.out.below bel)).mono ?_
  rintro e9 wq ⟨rfl, hb⟩
  replace bel := bel.trans (hb.mono bel.size)
  clear hb
  go_wp2_with fail
  refine (S4.out _).mono ?_
  rintro e9 wq ⟨rfl, hb⟩
  replace bel := bel.trans (hb.mono bel.size)
  clear hb
  clear I4 S4
  go_wp2_with fail
  refine (spec_DrawOrdinalText A len cap zs W _ HR.out bel).mono ?_
  rintro e9 wq ⟨k, rfl, -, hb⟩
  replace bel := bel.trans (hb.mono bel.size)
  clear hb
  obtain ⟨t, I5, S5, H5⟩ := k_pack k
  go_wp2_with fail
  refine (I5.out _).mono ?_
  rintro e9 wq ⟨rfl, hb⟩
  replace bel := bel.trans (hb.mono bel.size)
  clear hb
  clear I5
  go_wp2_with fail
  refine (spec_DrawReadOrdinal A len cap zs W _ HR.out bel).mono ?_
  rintro e9 wq ⟨r, rfl, -, hb⟩
  replace bel := bel.trans (hb.mono bel.size)
  clear hb
  go_wp2_with fail
  refine (impl_ReadOrdinal (str r) _).mono ?_
  rintro e9 wq ⟨u, v, rfl, h1, hb⟩
  replace bel := bel.trans (hb.mono bel.size)
  clear hb
  have HU := Lib.hid h1
  clear h1
  go_wp2_with fail
  refine (spec_ReadOrdinal (str r) _).mono ?_
  rintro e9 wq ⟨u', v', rfl, h2, hb⟩
  replace bel := bel.trans (hb.mono bel.size)
  clear hb
  obtain ⟨rfl, rfl⟩ := HU.out.uniq h2
  clear h2 HU
  go_wp2_with fail
  refine (spec_DrawReadNumber A len cap zs W _ HR.out bel).mono ?_
  rintro e9 wq ⟨d, rfl, hd, hb⟩
  replace bel := bel.trans (hb.mono bel.size)
  clear hb
  obtain ⟨p, q, I6, S6⟩ := r_pack d hd
  clear hd
  go_wp2_with fail
  refine (I6.out _ (HE.out.below bel)).mono ?_
  rintro e9 wq ⟨rfl, hb⟩
  replace bel := bel.trans (hb.mono bel.size)
  clear hb
  go_wp2_with fail
  refine (S6.out _).mono ?_
  rintro e9 wq ⟨rfl, hb⟩
  replace bel := bel.trans (hb.mono bel.size)
  clear hb
  clear I6 S6
  go_wp2_with fail
  refine (S1.out _).mono ?_
  rintro e9 wq ⟨rfl, hb⟩
  replace bel := bel.trans (hb.mono bel.size)
  clear hb
  go_wp2_with fail
  refine (S2.out _).mono ?_
  rintro e9 wq ⟨rfl, hb⟩
  replace bel := bel.trans (hb.mono bel.size)
  clear hb
  go_wp2_with fail
  refine (S5.out _).mono ?_
  rintro e9 wq ⟨rfl, hb⟩
  replace bel := bel.trans (hb.mono bel.size)
  clear hb
  clear S1 S2 S5
  rcases H4.out with rfl | ⟨rfl, O4⟩
  · clear H4
    rcases H5.out with ht | ⟨ht, O5⟩
    · clear H5
      have t5 : (t == []) = true := by rw [ht]; rfl
      have t6 := str_toList t
      clear ht
      rcases H1.out with ⟨rfl, ha, hb⟩ | ⟨rfl, hc, R1, R2⟩
      · clear H1
        have a5 : (a == []) = true := by rw [ha]; rfl
        have a6 := str_toList a
        have b5 : (b == []) = true := by rw [hb]; rfl
        have b6 := str_toList b
        clear ha hb
        go_wp2_with fail
        go_ret
        exact ⟨by first | rfl | (simp; done), bel⟩
      · clear H1
        go_wp2_with fail
        refine (R1.out _ (HE.out.below bel)).mono ?_
        rintro e9 wq ⟨rfl, hb⟩
        replace bel := bel.trans (hb.mono bel.size)
        clear hb
        go_wp2_with fail
        refine (R2.out _ (HE.out.below bel)).mono ?_
        rintro e9 wq ⟨rfl, hb⟩
        replace bel := bel.trans (hb.mono bel.size)
        clear hb
        clear R1 R2
        go_wp2_with fail
        go_ret
        exact ⟨by first | rfl | (simp; omega), bel⟩
    · clear H5
      have t5 : (t == []) = false := by simpa using ht
      have t6 := str_toList t
      clear ht
      go_wp2_with fail
      refine (O5.out _).mono ?_
      rintro e9 wq ⟨rfl, hb⟩
      replace bel := bel.trans (hb.mono bel.size)
      clear hb
      clear O5
      rcases H1.out with ⟨rfl, ha, hb⟩ | ⟨rfl, hc, R1, R2⟩
      · clear H1
        have a5 : (a == []) = true := by rw [ha]; rfl
        have a6 := str_toList a
        have b5 : (b == []) = true := by rw [hb]; rfl
        have b6 := str_toList b
        clear ha hb
        go_wp2_with fail
        go_ret
        exact ⟨by first | rfl | (simp; done), bel⟩
      · clear H1
        go_wp2_with fail
        refine (R1.out _ (HE.out.below bel)).mono ?_
        rintro e9 wq ⟨rfl, hb⟩
        replace bel := bel.trans (hb.mono bel.size)
        clear hb
        go_wp2_with fail
        refine (R2.out _ (HE.out.below bel)).mono ?_
        rintro e9 wq ⟨rfl, hb⟩
        replace bel := bel.trans (hb.mono bel.size)
        clear hb
        clear R1 R2
        go_wp2_with fail
        go_ret
        exact ⟨by first | rfl | (simp; omega), bel⟩
  · clear H4
    go_wp2_with fail
    refine (O4.out _ (HE.out.below bel)).mono ?_
    rintro e9 wq ⟨rfl, hb⟩
    replace bel := bel.trans (hb.mono bel.size)
    clear hb
    clear O4
    rcases H5.out with ht | ⟨ht, O5⟩
    · clear H5
      have t5 : (t == []) = true := by rw [ht]; rfl
      have t6 := str_toList t
      clear ht
      rcases H1.out with ⟨rfl, ha, hb⟩ | ⟨rfl, hc, R1, R2⟩
      · clear H1
        have a5 : (a == []) = true := by rw [ha]; rfl
        have a6 := str_toList a
        have b5 : (b == []) = true := by rw [hb]; rfl
        have b6 := str_toList b
        clear ha hb
        go_wp2_with fail
        go_ret
        exact ⟨by first | rfl | (simp; done), bel⟩
      · clear H1
        go_wp2_with fail
        refine (R1.out _ (HE.out.below bel)).mono ?_
        rintro e9 wq ⟨rfl, hb⟩
        replace bel := bel.trans (hb.mono bel.size)
        clear hb
        go_wp2_with fail
        refine (R2.out _ (HE.out.below bel)).mono ?_
        rintro e9 wq ⟨rfl, hb⟩
        replace bel := bel.trans (hb.mono bel.size)
        clear hb
        clear R1 R2
        go_wp2_with fail
        go_ret
        exact ⟨by first | rfl | (simp; omega), bel⟩
    · clear H5
      have t5 : (t == []) = false := by simpa using ht
      have t6 := str_toList t
      clear ht
      go_wp2_with fail
      refine (O5.out _).mono ?_
      rintro e9 wq ⟨rfl, hb⟩
      replace bel := bel.trans (hb.mono bel.size)
      clear hb
      clear O5
      rcases H1.out with ⟨rfl, ha, hb⟩ | ⟨rfl, hc, R1, R2⟩
      · clear H1
        have a5 : (a == []) = true := by rw [ha]; rfl
        have a6 := str_toList a
        have b5 : (b == []) = true := by rw [hb]; rfl
        have b6 := str_toList b
        clear ha hb
        go_wp2_with fail
        go_ret
        exact ⟨by first | rfl | (simp; done), bel⟩
      · clear H1
        go_wp2_with fail
        refine (R1.out _ (HE.out.below bel)).mono ?_
        rintro e9 wq ⟨rfl, hb⟩
        replace bel := bel.trans (hb.mono bel.size)
        clear hb
        go_wp2_with fail
        refine (R2.out _ (HE.out.below bel)).mono ?_
        rintro e9 wq ⟨rfl, hb⟩
        replace bel := bel.trans (hb.mono bel.size)
        clear hb
        clear R1 R2
        go_wp2_with fail
        go_ret
        exact ⟨by first | rfl | (simp; omega), bel⟩

end Go.Proofs.YtiimoejjokfkfaaDoor.Num
