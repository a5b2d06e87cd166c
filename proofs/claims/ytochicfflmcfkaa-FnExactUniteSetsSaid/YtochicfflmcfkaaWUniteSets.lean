/- The walk of the law on UniteSets. -/
import Derived.Test.YtochicfflmcfkaaUnite
namespace Go.Proofs.Ytochicfflmcfkaa.Sets
open Go.RowKit

set_option maxHeartbeats 4000000 in
set_option maxRecDepth 100000 in
theorem walk_FnExactUniteSets (A0 : Option Addr) (n0 c0 : Nat) (xs0 : L) (hn0 : n0 ≤ maxLen) (A1 : Option Addr) (n1 c1 : Nat) (xs1 : L) (hn1 : n1 ≤ maxLen) (w : World) (h0 : Rd w A0 n0 xs0) (h1 : Rd w A1 n1 xs1) :
    Calls Try.prog 9 #[.slice A0 n0 c0, .slice A1 n1 c1] w (Bl true w) := by
  have HZ0 := Lib.hid (fun wx => laws_sz A0 n0 c0 1048576 (by omega) (by omega) hn0 wx)
  by_cases hbig0 : (1048576 : Int) < n0
  · have r0 := Lib.hid (show (if (1048576 : Int) < (n0 : Int) then (-1 : Int) else 1048576 - (n0 : Int)) = -1 from if_pos hbig0)
    clear hbig0
    go_enter Try.func9, Try.ntmps9
    go_wp2_with fail
    refine (HZ0.out _).mono ?_
    rw [r0.out]
    rintro e w1 ⟨rfl, rfl⟩
    go_wp2_with fail
    go_ret
    exact ⟨rfl, Below.refl _ _⟩
  have r0 := Lib.hid (show (if (1048576 : Int) < (n0 : Int) then (-1 : Int) else 1048576 - (n0 : Int)) = 1048576 - (n0 : Int) from if_neg hbig0)
  have hp0 : ¬ (1048576 - (n0 : Int) < 0) := by omega
  have HM0 := Lib.hid hn0
  have HZ1 := Lib.hid (fun wx => laws_sz A1 n1 c1 (1048576 - (n0 : Int)) (by omega) (by omega) hn1 wx)
  by_cases hbig1 : ((1048576 - (n0 : Int)) : Int) < n1
  · have r1 := Lib.hid (show (if ((1048576 - (n0 : Int)) : Int) < (n1 : Int) then (-1 : Int) else (1048576 - (n0 : Int)) - (n1 : Int)) = -1 from if_pos hbig1)
    clear hbig1
    go_enter Try.func9, Try.ntmps9
    go_wp2_with fail
    refine (HZ0.out _).mono ?_
    rw [r0.out]
    rintro e w1 ⟨rfl, rfl⟩
    go_wp2_with fail
    refine (HZ1.out _).mono ?_
    rw [r1.out]
    rintro e w1 ⟨rfl, rfl⟩
    go_wp2_with fail
    go_ret
    exact ⟨rfl, Below.refl _ _⟩
  have r1 := Lib.hid (show (if ((1048576 - (n0 : Int)) : Int) < (n1 : Int) then (-1 : Int) else (1048576 - (n0 : Int)) - (n1 : Int)) = (1048576 - (n0 : Int)) - (n1 : Int) from if_neg hbig1)
  have hp1 : ¬ ((1048576 - (n0 : Int)) - (n1 : Int) < 0) := by omega
  have HN0 := Lib.hid hn0
  have hm0 : n0 ≤ 2000000 := by omega
  have HT0 := Lib.hid hm0
  have HN1 := Lib.hid hn1
  have hm1 : n1 ≤ 2000000 := by omega
  have HT1 := Lib.hid hm1
  clear hn0 hbig0 hm0 hn1 hbig1 hm1
  obtain ⟨V, E, HL, HS, HI⟩ : ∃ (V : L) (E : Int), Hid (V.length ≤ 2000000) ∧ Hid (∀ (B0 B1 : Option Addr) (wx : World), Rd wx B0 n0 xs0 → Rd wx B1 n1 xs1 → Calls Try.prog 17 #[.slice B0 n0 n0, .slice B1 n1 n1] wx (SetOut V E wx)) ∧ Hid (∀ (B0 B1 : Option Addr) (wx : World), Rd wx B0 n0 xs0 → Rd wx B1 n1 xs1 → Calls Try.prog 16 #[.slice B0 n0 n0, .slice B1 n1 n1] wx (SetOut V E wx)) :=
    ⟨_, _, Lib.hid (by exact res_len _ _), Lib.hid fun B0 B1 wx q0 q1 => spec_UniteSets B0 B1 n0 n1 n0 n1 xs0 xs1 HN0.out HN1.out   wx q0 q1, Lib.hid fun B0 B1 wx q0 q1 => impl_UniteSets B0 B1 n0 n1 n0 n1 xs0 xs1 HN0.out HN1.out   wx q0 q1⟩
  go_enter Try.func9, Try.ntmps9
  go_wp2_with fail
  refine (HZ0.out _).mono ?_
  rw [r0.out]
  rintro e w1 ⟨rfl, rfl⟩
  go_wp2_with fail
  refine (HZ1.out _).mono ?_
  rw [r1.out]
  rintro e w1 ⟨rfl, rfl⟩
  have kk : Below w.heap.size w w := Below.refl _ _
  have z0 : w.heap.size ≤ w.heap.size := Nat.le_refl _
  go_wp2_with fail
  refine (laws_toSpans A0 n0 c0 xs0 HT0.out w (h0.below kk)).mono ?_
  rintro e w2 ⟨As0, rfl, Rs0, b⟩
  replace kk := below_on kk b
  have z2 : w.heap.size ≤ w2.heap.size := b.size
  go_wp2_with fail
  refine (laws_toSpans A1 n1 c1 xs1 HT1.out w2 (h1.below kk)).mono ?_
  rintro e w3 ⟨As1, rfl, Rs1, b⟩
  replace kk := below_on kk b
  replace Rs0 := Rs0.below b
  have z3 : w2.heap.size ≤ w3.heap.size := b.size
  go_wp2_with fail
  refine (HS.out As0 As1 w3 Rs0.rd Rs1.rd).mono ?_
  rintro e w4 ⟨AW, cW, rfl, RW, b⟩
  replace kk := below_on kk b
  replace Rs0 := Rs0.below b
  replace Rs1 := Rs1.below b
  have z4 : w3.heap.size ≤ w4.heap.size := b.size
  clear Rs0
  clear Rs1
  go_wp2_with fail
  refine (laws_toSpans A0 n0 c0 xs0 HT0.out w4 (h0.below kk)).mono ?_
  rintro e w5 ⟨Ax0, rfl, Rx0, b⟩
  replace kk := below_on kk b
  replace RW := RW.below b
  have z5 : w4.heap.size ≤ w5.heap.size := b.size
  go_wp2_with fail
  refine (laws_toSpans A1 n1 c1 xs1 HT1.out w5 (h1.below kk)).mono ?_
  rintro e w6 ⟨Ax1, rfl, Rx1, b⟩
  replace kk := below_on kk b
  replace RW := RW.below b
  replace Rx0 := Rx0.below b
  have z6 : w5.heap.size ≤ w6.heap.size := b.size
  go_wp2_with fail
  refine (HI.out Ax0 Ax1 w6 Rx0.rd Rx1.rd).mono ?_
  rintro e w7 ⟨AG, cG, rfl, RG, b⟩
  replace kk := below_on kk b
  replace RW := RW.below b
  replace Rx0 := Rx0.below b
  replace Rx1 := Rx1.below b
  have z7 : w6.heap.size ≤ w7.heap.size := b.size
  go_wp2_with fail
  refine (laws_eqSpans AG AW _ _ _ V HL.out w7 RG.rd RW.rd).mono ?_
  rintro e w8 ⟨rfl, b⟩
  replace kk := below_on kk b
  replace RW := RW.below b
  replace Rx0 := Rx0.below b
  replace Rx1 := Rx1.below b
  replace RG := RG.below b
  have z8 : w7.heap.size ≤ w8.heap.size := b.size
  go_wp2_with fail
  refine (laws_toSpans A0 n0 c0 xs0 HT0.out w8 (h0.below kk)).mono ?_
  rintro e w9 ⟨Ay0, rfl, Ry0, b⟩
  replace kk := below_on kk b
  replace RW := RW.below b
  replace Rx0 := Rx0.below b
  replace Rx1 := Rx1.below b
  replace RG := RG.below b
  have z9 : w8.heap.size ≤ w9.heap.size := b.size
  go_wp2_with fail
  refine (laws_eqSpans Ax0 Ay0 n0 n0 n0 xs0 HT0.out w9 Rx0.rd Ry0.rd).mono ?_
  rintro e w10 ⟨rfl, b⟩
  replace kk := below_on kk b
  replace RW := RW.below b
  replace Rx0 := Rx0.below b
  replace Rx1 := Rx1.below b
  replace RG := RG.below b
  replace Ry0 := Ry0.below b
  have z10 : w9.heap.size ≤ w10.heap.size := b.size
  clear Ry0
  go_wp2_with fail
  refine (laws_toSpans A1 n1 c1 xs1 HT1.out w10 (h1.below kk)).mono ?_
  rintro e w11 ⟨Ay1, rfl, Ry1, b⟩
  replace kk := below_on kk b
  replace RW := RW.below b
  replace Rx0 := Rx0.below b
  replace Rx1 := Rx1.below b
  replace RG := RG.below b
  have z11 : w10.heap.size ≤ w11.heap.size := b.size
  go_wp2_with fail
  refine (laws_eqSpans Ax1 Ay1 n1 n1 n1 xs1 HT1.out w11 Rx1.rd Ry1.rd).mono ?_
  rintro e w12 ⟨rfl, b⟩
  replace kk := below_on kk b
  replace RW := RW.below b
  replace Rx0 := Rx0.below b
  replace Rx1 := Rx1.below b
  replace RG := RG.below b
  replace Ry1 := Ry1.below b
  have z12 : w11.heap.size ≤ w12.heap.size := b.size
  clear Ry1
  go_wp2_with fail
  refine (laws_mark Ax0 n0 n0 _ _ xs0 1 (by omega) (by have := HT0.out; have := HT1.out; omega) HT0.out w12 Rx0).mono ?_
  rintro e w13 ⟨rfl, Rx0', hc⟩
  replace kk := kk.trans (hc.below (B0 := w.heap.size) (by omega) kk.size)
  have z13 : w12.heap.size ≤ w13.heap.size := hc.size
  replace RW := RW.chg hc (by omega)
  replace Rx1 := Rx1.chg hc (by omega)
  replace RG := RG.chg hc (by omega)
  clear Rx0 hc
  clear Rx0'
  go_wp2_with fail
  refine (laws_mark Ax1 n1 n1 _ _ xs1 (1 + 2 * (n0 : Int)) (by omega) (by have := HT0.out; have := HT1.out; omega) HT1.out w13 Rx1).mono ?_
  rintro e w14 ⟨rfl, Rx1', hc⟩
  replace kk := kk.trans (hc.below (B0 := w.heap.size) (by omega) kk.size)
  have z14 : w13.heap.size ≤ w14.heap.size := hc.size
  replace RW := RW.chg hc (by omega)
  replace RG := RG.chg hc (by omega)
  clear Rx1 hc
  clear Rx1'
  have hkk : ¬ (((1 + 2 * (n0 : Int)) + 2 * (n1 : Int)) < 0) := by omega
  go_wp2_with fail
  refine (laws_eqSpans AG AW _ _ _ V HL.out w14 RG.rd RW.rd).mono ?_
  rintro e w15 ⟨rfl, b⟩
  replace kk := below_on kk b
  replace RW := RW.below b
  replace RG := RG.below b
  have z15 : w14.heap.size ≤ w15.heap.size := b.size
  go_wp2_with fail
  refine (laws_mark AG _ _ _ _ V 1 (by omega) (by have := HT0.out; have := HT1.out; omega) HL.out w15 RG).mono ?_
  rintro e w16 ⟨rfl, RG', hc⟩
  replace kk := kk.trans (hc.below (B0 := w.heap.size) (by omega) kk.size)
  have z16 : w15.heap.size ≤ w16.heap.size := hc.size
  replace RW := RW.chg hc (by omega)
  clear RG hc
  have hqq : ¬ (1 + 2 * (V.length : Int) < 0) := by omega
  go_wp2_with fail
  refine (laws_held AG _ cG 1 (by omega) (by omega) HL.out w16 RG'.rd).mono ?_
  rintro e wz ⟨rfl, rfl⟩
  go_wp2_with fail
  refine (laws_toSpans A0 n0 c0 xs0 HT0.out w16 (h0.below kk)).mono ?_
  rintro e w17 ⟨At0, rfl, Rt0, b⟩
  replace kk := below_on kk b
  replace RW := RW.below b
  replace RG' := RG'.below b
  have z17 : w16.heap.size ≤ w17.heap.size := b.size
  go_wp2_with fail
  refine (laws_toSpans A1 n1 c1 xs1 HT1.out w17 (h1.below kk)).mono ?_
  rintro e w18 ⟨At1, rfl, Rt1, b⟩
  replace kk := below_on kk b
  replace RW := RW.below b
  replace RG' := RG'.below b
  replace Rt0 := Rt0.below b
  have z18 : w17.heap.size ≤ w18.heap.size := b.size
  go_wp2_with fail
  refine (HI.out At0 At1 w18 Rt0.rd Rt1.rd).mono ?_
  rintro e w19 ⟨AH, cH, rfl, RH, b⟩
  replace kk := below_on kk b
  replace RW := RW.below b
  replace RG' := RG'.below b
  replace Rt0 := Rt0.below b
  replace Rt1 := Rt1.below b
  have z19 : w18.heap.size ≤ w19.heap.size := b.size
  clear Rt0
  clear Rt1
  go_wp2_with fail
  refine (laws_eqSpans AH AW _ _ _ V HL.out w19 RH.rd RW.rd).mono ?_
  rintro e w20 ⟨rfl, b⟩
  replace kk := below_on kk b
  replace RW := RW.below b
  replace RG' := RG'.below b
  replace RH := RH.below b
  have z20 : w19.heap.size ≤ w20.heap.size := b.size
  go_wp2_with fail
  refine (laws_held AG _ cG 1 (by omega) (by omega) HL.out w20 RG'.rd).mono ?_
  rintro e wz ⟨rfl, rfl⟩
  go_wp2_with fail
  go_ret
  exact ⟨rfl, kk⟩

end Go.Proofs.Ytochicfflmcfkaa.Sets

