/- The walk of the law FnIndictions: made by gen_windictions.py. -/
import Derived.Test.YtfienklaafialaaIndT
import Derived.Test.YtfienklaafialaaDice
import Derived.Test.YtfienklaafialaaLike
namespace Go.Proofs.Ytfienklaafialaa.Ind
open Go.RowKit
open Go.Proofs.Ytfienklaafialaa.Sets (cell_keep below_on laws_big laws_like laws_rollS laws_below)

/-- A row that was there before the dice stays while they are thrown. -/
theorem _root_.Go.Proofs.Ytfienklaafialaa.Sets.Rd.grown7 {w0 w w' : World} {A : Option Addr} {n g : Nat} {xs : Sets.L} (_h : Sets.Rd w A n xs) (hb : Below w0.heap.size w0 w) (hg : w0.heap.size ≤ g) (hk : w.grownBy w' (some g)) (h0 : Sets.Rd w0 A n xs) : Sets.Rd w' A n xs :=
  h0.below (hb.trans (only_below hk hg hb.size))

set_option maxRecDepth 100000 in
set_option maxHeartbeats 16000000 in
theorem walk_FnIndictions (A : Option Addr) (len cap : Nat) (zs : List Int) (W : World) (hrow : IsRow .u8 W A len cap zs) :
    Calls Try.prog 3 #[.slice A len cap] W (Bl true W) := by
  have hm : len ≤ maxLen := by
    rcases hrow with ⟨_, rfl, _⟩ | ⟨_, _, h1, h2, _⟩
    · exact Nat.zero_le _
    · omega
  have HR := Lib.hid hrow
  clear hrow
  have bel := Below.refl W.heap.size W
  by_cases hbig : 4096 < len
  · go_enter Try.func3, Try.ntmps3
    go_wp2_with fail
    refine (laws_big A len cap hm _).mono ?_
    rintro e w1 ⟨rfl, rfl⟩
    go_wp2_with fail
    go_ret
    exact ⟨rfl, Below.refl _ _⟩
  go_enter Try.func3, Try.ntmps3
  go_wp2_with fail
  refine (laws_big A len cap hm _).mono ?_
  rintro e w1 ⟨rfl, rfl⟩
  go_wp2_with fail
  refine (spec_DrawIndictionOn A len cap zs W _ HR.out bel).mono ?_
  rintro e9 wq ⟨k0, n0, rfl, -, -, hb⟩
  replace bel := bel.trans (hb.mono bel.size)
  clear hb
  obtain ⟨X0, E0, I0, S0, H0⟩ := io_pack k0 n0
  go_wp2_with fail
  refine (I0.out _).mono ?_
  rintro e9 wq ⟨rfl, hb⟩
  replace bel := bel.trans (hb.mono bel.size)
  clear hb
  go_wp2_with fail
  refine (S0.out _).mono ?_
  rintro e9 wq ⟨rfl, hb⟩
  replace bel := bel.trans (hb.mono bel.size)
  clear hb
  clear I0 S0
  go_wp2_with fail
  refine (spec_DrawIndictionDays A len cap zs W _ HR.out bel).mono ?_
  rintro e9 wq ⟨k, i, f, t, rfl, -, -, hb⟩
  replace bel := bel.trans (hb.mono bel.size)
  clear hb
  obtain ⟨V, E1, HN, I1, S1, H1⟩ := id_pack k i f t
  go_wp2_with fail
  refine (I1.out _).mono ?_
  rintro e9 wq ⟨AG, cG, rfl, RG, hb⟩
  replace bel := bel.trans (hb.mono bel.size)
  clear hb
  replace RG := RG.rd
  go_wp2_with fail
  refine (S1.out _).mono ?_
  rintro e9 wq ⟨AW, cW, rfl, RW, hb⟩
  replace bel := bel.trans (hb.mono bel.size)
  replace RG := RG.below hb
  clear hb
  replace RW := RW.rd
  clear I1 S1
  go_wp2_with fail
  refine (spec_DrawIndictionOf A len cap zs W _ HR.out bel).mono ?_
  rintro e9 wq ⟨y, rfl, ⟨y0, y1⟩, hb⟩
  replace bel := bel.trans (hb.mono bel.size)
  replace RG := RG.below hb
  replace RW := RW.below hb
  clear hb
  obtain ⟨X2, E2, I2, S2, H2⟩ := if_pack y
  go_wp2_with fail
  refine (I2.out _).mono ?_
  rintro e9 wq ⟨rfl, hb⟩
  replace bel := bel.trans (hb.mono bel.size)
  replace RG := RG.below hb
  replace RW := RW.below hb
  clear hb
  go_wp2_with fail
  refine (S2.out _).mono ?_
  rintro e9 wq ⟨rfl, hb⟩
  replace bel := bel.trans (hb.mono bel.size)
  replace RG := RG.below hb
  replace RW := RW.below hb
  clear hb
  clear I2 S2
  go_wp2_with fail
  refine (laws_like AG AW _ _ _ V HN.out _ RG RW).mono ?_
  rintro e9 wq ⟨rfl, hb⟩
  replace bel := bel.trans (hb.mono bel.size)
  replace RG := RG.below hb
  clear hb RW HN
  rcases H1.out with e1 | ⟨rfl, f0, ft, t1, t2, FX⟩
  · clear H1
    rcases H2.out with e2 | ⟨rfl, e2⟩ | ⟨rfl, e2, x21, x22, I15, I16⟩
    · clear H2
      rcases H0.out with e0 | ⟨rfl, x01, x02⟩
      · clear H0
        replace e0 : ¬ E0 = 0 := by simpa using e0
        go_wp2_with fail
        go_ret
        exact ⟨by first | rfl | (simp; done), bel⟩
      · clear H0
        go_wp2_with fail
        go_ret
        exact ⟨by first | rfl | (simp; omega), bel⟩
    · clear H2
      rcases H0.out with e0 | ⟨rfl, x01, x02⟩
      · clear H0
        replace e0 : ¬ E0 = 0 := by simpa using e0
        go_wp2_with fail
        go_ret
        exact ⟨by first | rfl | (simp; done), bel⟩
      · clear H0
        go_wp2_with fail
        go_ret
        exact ⟨by first | rfl | (simp; omega), bel⟩
    · clear H2
      go_wp2_with fail
      refine (I15.out _).mono ?_
      rintro e9 wq ⟨rfl, hb⟩
      replace bel := bel.trans (hb.mono bel.size)
      clear hb
      go_wp2_with fail
      refine (I16.out _).mono ?_
      rintro e9 wq ⟨rfl, hb⟩
      replace bel := bel.trans (hb.mono bel.size)
      clear hb I15 I16
      rcases H0.out with e0 | ⟨rfl, x01, x02⟩
      · clear H0
        replace e0 : ¬ E0 = 0 := by simpa using e0
        go_wp2_with fail
        go_ret
        exact ⟨by first | rfl | (simp; done), bel⟩
      · clear H0
        go_wp2_with fail
        go_ret
        exact ⟨by first | rfl | (simp; omega), bel⟩
  · clear H1
    go_wp2_with fail
    refine (laws_rollS 801 (by omega) (by omega) A len cap zs W _ HR.out bel).mono ?_
    rintro e9 wr ⟨g, rfl, hg, die, hb⟩
    have hgs := bel.size
    replace bel := bel.trans (hb.mono bel.size)
    have RG0 := RG
    replace RG := RG.below hb
    have hgr := hb
    clear hb
    go_wp2_with fail
    refine (laws_below A len cap zs W _ g (t - f + 1) die (by omega) (by omega)).mono ?_
    rintro e9 wb ⟨x, rfl, x0, x1, -, kb⟩
    replace bel := bel.trans (only_below kb (by omega) bel.size)
    replace RG := RG.grown7 hgr hg kb RG0
    clear die kb hgr hg hgs RG0
    obtain ⟨XX, IO, IH⟩ := FX (f + x) (by omega) (by omega)
    have x3 : x ≤ 40000 := by omega
    clear x1 FX
    go_wp2_with fail
    refine (IH.out AG cG _ RG).mono ?_
    rintro e9 wq ⟨rfl, hb⟩
    replace bel := bel.trans (hb.mono bel.size)
    clear hb RG IH
    go_wp2_with fail
    refine (IO.out _).mono ?_
    rintro e9 wq ⟨rfl, hb⟩
    replace bel := bel.trans (hb.mono bel.size)
    clear hb IO
    rcases H2.out with e2 | ⟨rfl, e2⟩ | ⟨rfl, e2, x21, x22, I15, I16⟩
    · clear H2
      rcases H0.out with e0 | ⟨rfl, x01, x02⟩
      · clear H0
        replace e0 : ¬ E0 = 0 := by simpa using e0
        go_wp2_with fail
        go_ret
        exact ⟨by first | rfl | (simp; done), bel⟩
      · clear H0
        go_wp2_with fail
        go_ret
        exact ⟨by first | rfl | (simp; omega), bel⟩
    · clear H2
      rcases H0.out with e0 | ⟨rfl, x01, x02⟩
      · clear H0
        replace e0 : ¬ E0 = 0 := by simpa using e0
        go_wp2_with fail
        go_ret
        exact ⟨by first | rfl | (simp; done), bel⟩
      · clear H0
        go_wp2_with fail
        go_ret
        exact ⟨by first | rfl | (simp; omega), bel⟩
    · clear H2
      go_wp2_with fail
      refine (I15.out _).mono ?_
      rintro e9 wq ⟨rfl, hb⟩
      replace bel := bel.trans (hb.mono bel.size)
      clear hb
      go_wp2_with fail
      refine (I16.out _).mono ?_
      rintro e9 wq ⟨rfl, hb⟩
      replace bel := bel.trans (hb.mono bel.size)
      clear hb I15 I16
      rcases H0.out with e0 | ⟨rfl, x01, x02⟩
      · clear H0
        replace e0 : ¬ E0 = 0 := by simpa using e0
        go_wp2_with fail
        go_ret
        exact ⟨by first | rfl | (simp; done), bel⟩
      · clear H0
        go_wp2_with fail
        go_ret
        exact ⟨by first | rfl | (simp; omega), bel⟩

end Go.Proofs.Ytfienklaafialaa.Ind
