/- The walk of the law on MakeSet. -/
import Derived.Test.YtochicfflmcfkaaMakeS
namespace Go.Proofs.Ytochicfflmcfkaa.Sets
open Go.RowKit

set_option maxHeartbeats 4000000 in
set_option maxRecDepth 100000 in
theorem walk_FnExactMakeSet (A0 : Option Addr) (n0 c0 : Nat) (xs0 : L) (hn0 : n0 ≤ maxLen) (w : World) (h0 : Rd w A0 n0 xs0) :
    Calls Try.prog 8 #[.slice A0 n0 c0] w (Bl true w) := by
  have HZ0 := Lib.hid (fun wx => laws_sz A0 n0 c0 1048576 (by omega) (by omega) hn0 wx)
  by_cases hbig0 : (1048576 : Int) < n0
  · have r0 := Lib.hid (show (if (1048576 : Int) < (n0 : Int) then (-1 : Int) else 1048576 - (n0 : Int)) = -1 from if_pos hbig0)
    clear hbig0
    go_enter Try.func8, Try.ntmps8
    go_wp2_with fail
    refine (HZ0.out _).mono ?_
    rw [r0.out]
    rintro e w1 ⟨rfl, rfl⟩
    go_wp2_with fail
    go_ret
    exact ⟨rfl, Below.refl _ _⟩
  have r0 := Lib.hid (show (if (1048576 : Int) < (n0 : Int) then (-1 : Int) else 1048576 - (n0 : Int)) = 1048576 - (n0 : Int) from if_neg hbig0)
  have hp0 : ¬ (1048576 - (n0 : Int) < 0) := by omega
  have HN0 := Lib.hid hn0
  have hm0 : n0 ≤ 2000000 := by omega
  have HT0 := Lib.hid hm0
  clear hn0 hbig0 hm0
  obtain ⟨V, E, HL, HS, HI⟩ : ∃ (V : L) (E : Int), Hid (V.length ≤ 2000000) ∧ Hid (∀ (B0 : Option Addr) (wx : World), Rd wx B0 n0 xs0 → Calls Try.prog 42 #[.slice B0 n0 n0] wx (SetOut V E wx)) ∧ Hid (∀ (B0 : Option Addr) (wx : World), Rd wx B0 n0 xs0 → Calls Try.prog 43 #[.slice B0 n0 n0] wx (SetOut V E wx)) :=
    ⟨_, _, Lib.hid (by exact res_len _ _), Lib.hid fun B0 wx q0 => spec_MakeSet B0 n0 n0 xs0 HN0.out   wx q0, Lib.hid fun B0 wx q0 => impl_MakeSet B0 n0 n0 xs0 HN0.out   wx q0⟩
  go_enter Try.func8, Try.ntmps8
  go_wp2_with fail
  refine (HZ0.out _).mono ?_
  rw [r0.out]
  rintro e w1 ⟨rfl, rfl⟩
  have kk : Below w.heap.size w w := Below.refl _ _
  have z0 : w.heap.size ≤ w.heap.size := Nat.le_refl _
  go_wp2_with fail
  refine (laws_toSpans A0 n0 c0 xs0 HT0.out w (h0.below kk)).mono ?_
  rintro e w2 ⟨As0, rfl, Rs0, b⟩
  replace kk := below_on kk b
  have z2 : w.heap.size ≤ w2.heap.size := b.size
  go_wp2_with fail
  refine (HS.out As0 w2 Rs0.rd).mono ?_
  rintro e w3 ⟨AW, cW, rfl, RW, b⟩
  replace kk := below_on kk b
  replace Rs0 := Rs0.below b
  have z3 : w2.heap.size ≤ w3.heap.size := b.size
  clear Rs0
  go_wp2_with fail
  refine (laws_toSpans A0 n0 c0 xs0 HT0.out w3 (h0.below kk)).mono ?_
  rintro e w4 ⟨Ax0, rfl, Rx0, b⟩
  replace kk := below_on kk b
  replace RW := RW.below b
  have z4 : w3.heap.size ≤ w4.heap.size := b.size
  go_wp2_with fail
  refine (HI.out Ax0 w4 Rx0.rd).mono ?_
  rintro e w5 ⟨AG, cG, rfl, RG, b⟩
  replace kk := below_on kk b
  replace RW := RW.below b
  replace Rx0 := Rx0.below b
  have z5 : w4.heap.size ≤ w5.heap.size := b.size
  go_wp2_with fail
  refine (laws_eqSpans AG AW _ _ _ V HL.out w5 RG.rd RW.rd).mono ?_
  rintro e w6 ⟨rfl, b⟩
  replace kk := below_on kk b
  replace RW := RW.below b
  replace Rx0 := Rx0.below b
  replace RG := RG.below b
  have z6 : w5.heap.size ≤ w6.heap.size := b.size
  go_wp2_with fail
  refine (laws_toSpans A0 n0 c0 xs0 HT0.out w6 (h0.below kk)).mono ?_
  rintro e w7 ⟨Ay0, rfl, Ry0, b⟩
  replace kk := below_on kk b
  replace RW := RW.below b
  replace Rx0 := Rx0.below b
  replace RG := RG.below b
  have z7 : w6.heap.size ≤ w7.heap.size := b.size
  go_wp2_with fail
  refine (laws_eqSpans Ax0 Ay0 n0 n0 n0 xs0 HT0.out w7 Rx0.rd Ry0.rd).mono ?_
  rintro e w8 ⟨rfl, b⟩
  replace kk := below_on kk b
  replace RW := RW.below b
  replace Rx0 := Rx0.below b
  replace RG := RG.below b
  replace Ry0 := Ry0.below b
  have z8 : w7.heap.size ≤ w8.heap.size := b.size
  clear Ry0
  go_wp2_with fail
  refine (laws_mark Ax0 n0 n0 _ _ xs0 1 (by omega) (by have := HT0.out; omega) HT0.out w8 Rx0).mono ?_
  rintro e w9 ⟨rfl, Rx0', hc⟩
  replace kk := kk.trans (hc.below (B0 := w.heap.size) (by omega) kk.size)
  have z9 : w8.heap.size ≤ w9.heap.size := hc.size
  replace RW := RW.chg hc (by omega)
  replace RG := RG.chg hc (by omega)
  clear Rx0 hc
  clear Rx0'
  have hkk : ¬ ((1 + 2 * (n0 : Int)) < 0) := by omega
  go_wp2_with fail
  refine (laws_eqSpans AG AW _ _ _ V HL.out w9 RG.rd RW.rd).mono ?_
  rintro e w10 ⟨rfl, b⟩
  replace kk := below_on kk b
  replace RW := RW.below b
  replace RG := RG.below b
  have z10 : w9.heap.size ≤ w10.heap.size := b.size
  go_wp2_with fail
  refine (laws_mark AG _ _ _ _ V 1 (by omega) (by have := HT0.out; omega) HL.out w10 RG).mono ?_
  rintro e w11 ⟨rfl, RG', hc⟩
  replace kk := kk.trans (hc.below (B0 := w.heap.size) (by omega) kk.size)
  have z11 : w10.heap.size ≤ w11.heap.size := hc.size
  replace RW := RW.chg hc (by omega)
  clear RG hc
  have hqq : ¬ (1 + 2 * (V.length : Int) < 0) := by omega
  go_wp2_with fail
  refine (laws_held AG _ cG 1 (by omega) (by omega) HL.out w11 RG'.rd).mono ?_
  rintro e wz ⟨rfl, rfl⟩
  go_wp2_with fail
  refine (laws_toSpans A0 n0 c0 xs0 HT0.out w11 (h0.below kk)).mono ?_
  rintro e w12 ⟨At0, rfl, Rt0, b⟩
  replace kk := below_on kk b
  replace RW := RW.below b
  replace RG' := RG'.below b
  have z12 : w11.heap.size ≤ w12.heap.size := b.size
  go_wp2_with fail
  refine (HI.out At0 w12 Rt0.rd).mono ?_
  rintro e w13 ⟨AH, cH, rfl, RH, b⟩
  replace kk := below_on kk b
  replace RW := RW.below b
  replace RG' := RG'.below b
  replace Rt0 := Rt0.below b
  have z13 : w12.heap.size ≤ w13.heap.size := b.size
  clear Rt0
  go_wp2_with fail
  refine (laws_eqSpans AH AW _ _ _ V HL.out w13 RH.rd RW.rd).mono ?_
  rintro e w14 ⟨rfl, b⟩
  replace kk := below_on kk b
  replace RW := RW.below b
  replace RG' := RG'.below b
  replace RH := RH.below b
  have z14 : w13.heap.size ≤ w14.heap.size := b.size
  go_wp2_with fail
  refine (laws_held AG _ cG 1 (by omega) (by omega) HL.out w14 RG'.rd).mono ?_
  rintro e wz ⟨rfl, rfl⟩
  go_wp2_with fail
  go_ret
  exact ⟨rfl, kk⟩

end Go.Proofs.Ytochicfflmcfkaa.Sets

