/- The walk of the law FnStyles: made by gen_wstyles.py. -/
import Derived.Test.YtigjpalbaapkkaaStyP
namespace Go.Proofs.Ytigjpalbaapkkaa.Sty
open Go.RowKit
open Go.Proofs.Ytigjpalbaapkkaa.Ints (Rd Row laws_likeInts)

set_option maxHeartbeats 400000 in
theorem laws_big6 (A : Option Addr) (len cap : Nat) (hm : len ≤ maxLen) (w : World) :
    Calls Try.prog 15 #[.slice A len cap] w fun e w' => e = .returned (.bool (decide (4096 < len))) ∧ w = w' := by
  unfold maxLen at hm
  go_enter Try.func15, Try.ntmps15
  go_wp2_with fail
  go_ret
  exact ⟨ret_bool (by simp; try omega), rfl⟩
/-- The loop over the styles that are told. -/
def SLoop (AG : Option Addr) (V : List Int) (N : Nat) (W : World) (k : Nat) (i : Value) (wr : World) : Prop :=
  ∃ n : Nat, i = .int .i64 n ∧ k = N - n ∧ n ≤ N ∧ Rd wr AG N V ∧ Below W.heap.size W wr

set_option maxRecDepth 100000 in
set_option maxHeartbeats 8000000 in
theorem walk_FnStyles (A : Option Addr) (len cap : Nat) (zs : List Int) (W : World) (hrow : IsRow .u8 W A len cap zs) :
    Calls Try.prog 3 #[.slice A len cap] W (Bl true W) := by
  have hm : len ≤ maxLen := by
    rcases hrow with ⟨_, rfl, _⟩ | ⟨_, _, h1, h2, _⟩
    · exact Nat.zero_le _
    · omega
  have HR := Lib.hid hrow
  clear hrow
  have S := St.start W
  by_cases hbig : 4096 < len
  · go_enter Try.func3, Try.ntmps3
    go_wp2_with fail
    refine (laws_big6 A len cap hm _).mono ?_
    rintro e w1 ⟨rfl, rfl⟩
    go_wp2_with fail
    go_ret
    exact ⟨rfl, Below.refl _ _⟩
  go_enter Try.func3, Try.ntmps3
  go_wp2_with fail
  refine (laws_big6 A len cap hm _).mono ?_
  rintro e w1 ⟨rfl, rfl⟩
  go_wp2_with fail
  refine (spec_DrawYearOn A len cap zs W _ HR.out S.bel).mono ?_
  rintro e wq ⟨s, n, rfl, -, hb⟩
  have S := S.call hb
  clear hb
  obtain ⟨N1, E1, I1, S1, H1⟩ := yo_pack s n
  go_wp2_with fail
  refine (I1.out _).mono ?_
  rintro e wq ⟨rfl, hb⟩
  have S := S.call hb
  clear hb
  go_wp2_with fail
  refine (S1.out _).mono ?_
  rintro e wq ⟨rfl, hb⟩
  have S := S.call hb
  clear hb
  clear I1 S1
  go_wp2_with fail
  refine (spec_DrawStylesFor A len cap zs W _ HR.out S.bel).mono ?_
  rintro e wq ⟨dy, yy, rfl, -, hb⟩
  have S := S.call hb
  clear hb
  obtain ⟨V, E2, HN, I2, S2, H2⟩ := sf_pack dy yy
  go_wp2_with fail
  refine (I2.out _).mono ?_
  rintro e wq ⟨AG, cG, rfl, RG, hb⟩
  have S := S.call hb
  replace RG := RG.rd
  clear hb
  go_wp2_with fail
  refine (S2.out _).mono ?_
  rintro e wq ⟨AW, cW, rfl, RW, hb⟩
  have S := S.call hb
  replace RG := RG.below hb
  replace RW := RW.rd
  clear hb
  clear I2 S2
  go_wp2_with fail
  refine (spec_DrawYearDifference A len cap zs W _ HR.out S.bel).mono ?_
  rintro e wq ⟨a, b, m, rfl, hb⟩
  have S := S.call hb
  replace RG := RG.below hb
  replace RW := RW.below hb
  clear hb
  obtain ⟨D3, E3, I3, S3, H3⟩ := yd_pack a b m
  go_wp2_with fail
  refine (I3.out _).mono ?_
  rintro e wq ⟨rfl, hb⟩
  have S := S.call hb
  replace RG := RG.below hb
  replace RW := RW.below hb
  clear hb
  go_wp2_with fail
  refine (S3.out _).mono ?_
  rintro e wq ⟨rfl, hb⟩
  have S := S.call hb
  replace RG := RG.below hb
  replace RW := RW.below hb
  clear hb
  clear I3 S3
  go_wp2_with fail
  refine (spec_DrawStyleName A len cap zs W _ HR.out S.bel).mono ?_
  rintro e wq ⟨j, rfl, -, hb⟩
  have S := S.call hb
  replace RG := RG.below hb
  replace RW := RW.below hb
  clear hb
  obtain ⟨sx, x, bx, I4, S4, I5, H4⟩ := sname_pack j
  go_wp2_with fail
  refine (I4.out _).mono ?_
  rintro e wq ⟨rfl, hb⟩
  have S := S.call hb
  replace RG := RG.below hb
  replace RW := RW.below hb
  clear hb
  go_wp2_with fail
  refine (I5.out _).mono ?_
  rintro e wq ⟨rfl, hb⟩
  have S := S.call hb
  replace RG := RG.below hb
  replace RW := RW.below hb
  clear hb
  go_wp2_with fail
  refine (spec_DrawStyleNamed A len cap zs W _ HR.out S.bel).mono ?_
  rintro e wq ⟨t, rfl, hb⟩
  have S := S.call hb
  replace RG := RG.below hb
  replace RW := RW.below hb
  clear hb
  obtain ⟨x2, b2, I6, S6⟩ := snamed_pack t
  go_wp2_with fail
  refine (I6.out _).mono ?_
  rintro e wq ⟨rfl, hb⟩
  have S := S.call hb
  replace RG := RG.below hb
  replace RW := RW.below hb
  clear hb
  go_wp2_with fail
  refine (S6.out _).mono ?_
  rintro e wq ⟨rfl, hb⟩
  have S := S.call hb
  replace RG := RG.below hb
  replace RW := RW.below hb
  clear hb
  clear I5 I6 S6 HR
  go_wp2_with fail
  refine (laws_likeInts AG AW _ _ _ V HN.out _ RG RW).mono ?_
  rintro e wq ⟨rfl, hb⟩
  have S := S.call hb
  replace RG := RG.below hb
  clear hb RW
  go_wp2_with fail
  refine (S4.out _).mono ?_
  rintro e wq ⟨rfl, hb⟩
  have S := S.call hb
  replace RG := RG.below hb
  clear hb
  clear I4 S4
  have bel := S.bel
  clear S
  have hN := HN.out
  obtain ⟨N, hN2⟩ : ∃ N, V.length = N := ⟨_, rfl⟩
  rw [hN2] at RG hN ⊢
  clear HN hN2
  rcases H4 with ⟨rfl, rfl, he1, he2⟩ | ⟨rfl, rfl, he1, he2⟩
  · rcases H3.out with e3 | ⟨rfl, d0, d1, BK⟩
    · clear H3
      rcases H2.out with rfl | ⟨rfl, FX⟩
      · clear H2
        go_wp2_with fail
        go_loopg [33] N (fun k i wr => SLoop AG V N W k i wr)
        case atStart => exact ⟨0, rfl, by omega, by omega, RG, bel⟩
        case round =>
          clear bel RG
          obtain ⟨n2, rfl, hk, hn, RR, bel⟩ := hrel
          subst hk
          rcases H1.out with e1 | ⟨rfl, F, T, P, h1, h2⟩
          · clear H1
            go_wp2_with fail
            go_ret
            exact ⟨rfl, bel⟩
          · clear H1
            go_wp2_with fail
            refine (P.out _).mono ?_
            rintro e wq ⟨rfl, hb⟩
            have bel2 := bel.trans (hb.mono bel.size)
            have bel3 := bel2.alloc bel2.size (.cells #[.int .i64 F, .int .i64 T] 40)
            clear hb P bel2
            go_wp2_with fail
            go_ret
            exact ⟨ret_bool (by simp; try omega), bel3⟩
      · clear H2
        go_wp2_with fail
        go_loopg [33] N (fun k i wr => SLoop AG V N W k i wr)
        case atStart => exact ⟨0, rfl, by omega, by omega, RG, bel⟩
        case round =>
          clear bel RG
          obtain ⟨n2, rfl, hk, hn, RR, bel⟩ := hrel
          subst hk
          by_cases hlt : n2 < N
          · obtain ⟨G, off, hl, rfl, hg, c0⟩ := RR.at_ hlt
            have FD := Lib.hid (FX V[n2] (List.getElem_mem hl))
            generalize V[n2] = x5 at c0 FD
            clear H1 hl FX
            go_wp2_with fail
            refine (FD.out _).mono ?_
            rintro e w5 ⟨rfl, hb⟩
            have R5 := RR.below hb
            have b5 := bel.trans (hb.mono bel.size)
            clear hb RR bel c0 hg
            go_wp2_with fail
            go_roundg (N - (n2 + 1))
            case measure => omega
            case rel => exact ⟨n2 + 1, by go_num, by omega, by omega, R5, b5⟩
          · have e : n2 = N := by omega
            subst e
            clear FX RR
            rcases H1.out with e1 | ⟨rfl, F, T, P, h1, h2⟩
            · clear H1
              go_wp2_with fail
              go_ret
              exact ⟨rfl, bel⟩
            · clear H1
              go_wp2_with fail
              refine (P.out _).mono ?_
              rintro e wq ⟨rfl, hb⟩
              have bel2 := bel.trans (hb.mono bel.size)
              have bel3 := bel2.alloc bel2.size (.cells #[.int .i64 F, .int .i64 T] 40)
              clear hb P bel2
              go_wp2_with fail
              go_ret
              exact ⟨ret_bool (by simp; try omega), bel3⟩
    · clear H3
      go_wp2_with fail
      refine (BK.out _).mono ?_
      rintro e wq ⟨rfl, hb⟩
      replace RG := RG.below hb
      have bel := bel.trans (hb.mono bel.size)
      clear hb BK
      rcases H2.out with rfl | ⟨rfl, FX⟩
      · clear H2
        go_wp2_with fail
        go_loopg [33] N (fun k i wr => SLoop AG V N W k i wr)
        case atStart => exact ⟨0, rfl, by omega, by omega, RG, bel⟩
        case round =>
          clear bel RG
          obtain ⟨n2, rfl, hk, hn, RR, bel⟩ := hrel
          subst hk
          rcases H1.out with e1 | ⟨rfl, F, T, P, h1, h2⟩
          · clear H1
            go_wp2_with fail
            go_ret
            exact ⟨rfl, bel⟩
          · clear H1
            go_wp2_with fail
            refine (P.out _).mono ?_
            rintro e wq ⟨rfl, hb⟩
            have bel2 := bel.trans (hb.mono bel.size)
            have bel3 := bel2.alloc bel2.size (.cells #[.int .i64 F, .int .i64 T] 40)
            clear hb P bel2
            go_wp2_with fail
            go_ret
            exact ⟨ret_bool (by simp; try omega), bel3⟩
      · clear H2
        go_wp2_with fail
        go_loopg [33] N (fun k i wr => SLoop AG V N W k i wr)
        case atStart => exact ⟨0, rfl, by omega, by omega, RG, bel⟩
        case round =>
          clear bel RG
          obtain ⟨n2, rfl, hk, hn, RR, bel⟩ := hrel
          subst hk
          by_cases hlt : n2 < N
          · obtain ⟨G, off, hl, rfl, hg, c0⟩ := RR.at_ hlt
            have FD := Lib.hid (FX V[n2] (List.getElem_mem hl))
            generalize V[n2] = x5 at c0 FD
            clear H1 hl FX
            go_wp2_with fail
            refine (FD.out _).mono ?_
            rintro e w5 ⟨rfl, hb⟩
            have R5 := RR.below hb
            have b5 := bel.trans (hb.mono bel.size)
            clear hb RR bel c0 hg
            go_wp2_with fail
            go_roundg (N - (n2 + 1))
            case measure => omega
            case rel => exact ⟨n2 + 1, by go_num, by omega, by omega, R5, b5⟩
          · have e : n2 = N := by omega
            subst e
            clear FX RR
            rcases H1.out with e1 | ⟨rfl, F, T, P, h1, h2⟩
            · clear H1
              go_wp2_with fail
              go_ret
              exact ⟨rfl, bel⟩
            · clear H1
              go_wp2_with fail
              refine (P.out _).mono ?_
              rintro e wq ⟨rfl, hb⟩
              have bel2 := bel.trans (hb.mono bel.size)
              have bel3 := bel2.alloc bel2.size (.cells #[.int .i64 F, .int .i64 T] 40)
              clear hb P bel2
              go_wp2_with fail
              go_ret
              exact ⟨ret_bool (by simp; try omega), bel3⟩
  · rcases H3.out with e3 | ⟨rfl, d0, d1, BK⟩
    · clear H3
      rcases H2.out with rfl | ⟨rfl, FX⟩
      · clear H2
        go_wp2_with fail
        go_loopg [33] N (fun k i wr => SLoop AG V N W k i wr)
        case atStart => exact ⟨0, rfl, by omega, by omega, RG, bel⟩
        case round =>
          clear bel RG
          obtain ⟨n2, rfl, hk, hn, RR, bel⟩ := hrel
          subst hk
          rcases H1.out with e1 | ⟨rfl, F, T, P, h1, h2⟩
          · clear H1
            go_wp2_with fail
            go_ret
            exact ⟨rfl, bel⟩
          · clear H1
            go_wp2_with fail
            refine (P.out _).mono ?_
            rintro e wq ⟨rfl, hb⟩
            have bel2 := bel.trans (hb.mono bel.size)
            have bel3 := bel2.alloc bel2.size (.cells #[.int .i64 F, .int .i64 T] 40)
            clear hb P bel2
            go_wp2_with fail
            go_ret
            exact ⟨ret_bool (by simp; try omega), bel3⟩
      · clear H2
        go_wp2_with fail
        go_loopg [33] N (fun k i wr => SLoop AG V N W k i wr)
        case atStart => exact ⟨0, rfl, by omega, by omega, RG, bel⟩
        case round =>
          clear bel RG
          obtain ⟨n2, rfl, hk, hn, RR, bel⟩ := hrel
          subst hk
          by_cases hlt : n2 < N
          · obtain ⟨G, off, hl, rfl, hg, c0⟩ := RR.at_ hlt
            have FD := Lib.hid (FX V[n2] (List.getElem_mem hl))
            generalize V[n2] = x5 at c0 FD
            clear H1 hl FX
            go_wp2_with fail
            refine (FD.out _).mono ?_
            rintro e w5 ⟨rfl, hb⟩
            have R5 := RR.below hb
            have b5 := bel.trans (hb.mono bel.size)
            clear hb RR bel c0 hg
            go_wp2_with fail
            go_roundg (N - (n2 + 1))
            case measure => omega
            case rel => exact ⟨n2 + 1, by go_num, by omega, by omega, R5, b5⟩
          · have e : n2 = N := by omega
            subst e
            clear FX RR
            rcases H1.out with e1 | ⟨rfl, F, T, P, h1, h2⟩
            · clear H1
              go_wp2_with fail
              go_ret
              exact ⟨rfl, bel⟩
            · clear H1
              go_wp2_with fail
              refine (P.out _).mono ?_
              rintro e wq ⟨rfl, hb⟩
              have bel2 := bel.trans (hb.mono bel.size)
              have bel3 := bel2.alloc bel2.size (.cells #[.int .i64 F, .int .i64 T] 40)
              clear hb P bel2
              go_wp2_with fail
              go_ret
              exact ⟨ret_bool (by simp; try omega), bel3⟩
    · clear H3
      go_wp2_with fail
      refine (BK.out _).mono ?_
      rintro e wq ⟨rfl, hb⟩
      replace RG := RG.below hb
      have bel := bel.trans (hb.mono bel.size)
      clear hb BK
      rcases H2.out with rfl | ⟨rfl, FX⟩
      · clear H2
        go_wp2_with fail
        go_loopg [33] N (fun k i wr => SLoop AG V N W k i wr)
        case atStart => exact ⟨0, rfl, by omega, by omega, RG, bel⟩
        case round =>
          clear bel RG
          obtain ⟨n2, rfl, hk, hn, RR, bel⟩ := hrel
          subst hk
          rcases H1.out with e1 | ⟨rfl, F, T, P, h1, h2⟩
          · clear H1
            go_wp2_with fail
            go_ret
            exact ⟨rfl, bel⟩
          · clear H1
            go_wp2_with fail
            refine (P.out _).mono ?_
            rintro e wq ⟨rfl, hb⟩
            have bel2 := bel.trans (hb.mono bel.size)
            have bel3 := bel2.alloc bel2.size (.cells #[.int .i64 F, .int .i64 T] 40)
            clear hb P bel2
            go_wp2_with fail
            go_ret
            exact ⟨ret_bool (by simp; try omega), bel3⟩
      · clear H2
        go_wp2_with fail
        go_loopg [33] N (fun k i wr => SLoop AG V N W k i wr)
        case atStart => exact ⟨0, rfl, by omega, by omega, RG, bel⟩
        case round =>
          clear bel RG
          obtain ⟨n2, rfl, hk, hn, RR, bel⟩ := hrel
          subst hk
          by_cases hlt : n2 < N
          · obtain ⟨G, off, hl, rfl, hg, c0⟩ := RR.at_ hlt
            have FD := Lib.hid (FX V[n2] (List.getElem_mem hl))
            generalize V[n2] = x5 at c0 FD
            clear H1 hl FX
            go_wp2_with fail
            refine (FD.out _).mono ?_
            rintro e w5 ⟨rfl, hb⟩
            have R5 := RR.below hb
            have b5 := bel.trans (hb.mono bel.size)
            clear hb RR bel c0 hg
            go_wp2_with fail
            go_roundg (N - (n2 + 1))
            case measure => omega
            case rel => exact ⟨n2 + 1, by go_num, by omega, by omega, R5, b5⟩
          · have e : n2 = N := by omega
            subst e
            clear FX RR
            rcases H1.out with e1 | ⟨rfl, F, T, P, h1, h2⟩
            · clear H1
              go_wp2_with fail
              go_ret
              exact ⟨rfl, bel⟩
            · clear H1
              go_wp2_with fail
              refine (P.out _).mono ?_
              rintro e wq ⟨rfl, hb⟩
              have bel2 := bel.trans (hb.mono bel.size)
              have bel3 := bel2.alloc bel2.size (.cells #[.int .i64 F, .int .i64 T] 40)
              clear hb P bel2
              go_wp2_with fail
              go_ret
              exact ⟨ret_bool (by simp; try omega), bel3⟩

end Go.Proofs.Ytigjpalbaapkkaa.Sty
