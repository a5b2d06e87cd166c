/- The walk of the law on DisputedDays. -/
import Derived.Test.YtfhcakpmlppbkaaLawP
import Derived.Test.YtfhcakpmlppbkaaReiIh
namespace Go.Proofs.Ytfhcakpmlppbkaa.Rei
open Go.RowKit
open Go.Proofs.Ytfhcakpmlppbkaa.Sets (below_on)

set_option maxHeartbeats 4000000 in
set_option maxRecDepth 100000 in
theorem walk_FnExactDisputedDays (A0 : Option Addr) (n0 c0 : Nat) (xs0 : LR) (hn0 : n0 ≤ maxLen) (w : World) (h0 : RdR w A0 n0 xs0) :
    Calls Try.prog 11 #[.slice A0 n0 c0] w fun e w' => e = .returned (.bool true) ∧ Below w.heap.size w w' := by
  obtain ⟨V, E, HL, HS, HI⟩ : ∃ (V : Sets.L) (E : Int), Hid (V.length ≤ 2000000) ∧ Hid (∀ (B : Option Addr) (wx : World), RdR wx B n0 xs0 → Calls Try.prog 42 #[.slice B n0 n0] wx (Sets.SetOut V E wx)) ∧ Hid (∀ (B : Option Addr) (wx : World), RdR wx B n0 xs0 → Calls Try.prog 43 #[.slice B n0 n0] wx (Sets.SetOut V E wx)) :=
    ⟨_, _, Lib.hid (len_DisputedDays xs0), Lib.hid fun B wx q => spec_DisputedDays B n0 n0 xs0 hn0 wx q, Lib.hid fun B wx q => impl_DisputedDays B n0 n0 xs0 hn0 wx q⟩
  have HZ := Lib.hid (fun wx q => laws_szReignS A0 n0 c0 xs0 hn0 wx q)
  clear hn0
  go_enter Try.func11, Try.ntmps11
  go_wp2_with fail
  refine (HZ.out _ h0).mono ?_
  rintro e w1 ⟨r, rfl, hr, kk⟩
  by_cases hneg : r < 0
  · clear hr
    go_wp2_with fail
    go_ret
    exact ⟨rfl, kk⟩
  have HT0 := Lib.hid (show n0 ≤ 2000000 from Nat.le_trans (hr (by omega)) (by omega))
  clear hr
  have z1 : w.heap.size ≤ w1.heap.size := kk.size
  go_wp2_with fail
  refine (laws_toReignS A0 n0 c0 xs0 HT0.out w1 (h0.below kk)).mono ?_
  rintro e w2 ⟨As, rfl, Rs, b⟩
  replace kk := below_on kk b
  have z2 : w1.heap.size ≤ w2.heap.size := b.size
  go_wp2_with fail
  refine (HS.out As w2 Rs.rd).mono ?_
  rintro e w3 ⟨AW, cW, rfl, RW, b⟩
  replace kk := below_on kk b
  replace Rs := Rs.below b
  have z3 : w2.heap.size ≤ w3.heap.size := b.size
  clear Rs
  go_wp2_with fail
  refine (laws_toReignS A0 n0 c0 xs0 HT0.out w3 (h0.below kk)).mono ?_
  rintro e w4 ⟨Ax, rfl, Rx, b⟩
  replace kk := below_on kk b
  replace RW := RW.below b
  have z4 : w3.heap.size ≤ w4.heap.size := b.size
  go_wp2_with fail
  refine (HI.out Ax w4 Rx.rd).mono ?_
  rintro e w5 ⟨AG, cG, rfl, RG, b⟩
  replace kk := below_on kk b
  replace RW := RW.below b
  replace Rx := Rx.below b
  have z5 : w4.heap.size ≤ w5.heap.size := b.size
  go_wp2_with fail
  refine (Sets.laws_eqSpans AG AW _ _ _ V HL.out w5 RG.rd RW.rd).mono ?_
  rintro e w6 ⟨rfl, b⟩
  replace kk := below_on kk b
  replace RW := RW.below b
  replace Rx := Rx.below b
  replace RG := RG.below b
  have z6 : w5.heap.size ≤ w6.heap.size := b.size
  go_wp2_with fail
  refine (laws_toReignS A0 n0 c0 xs0 HT0.out w6 (h0.below kk)).mono ?_
  rintro e w7 ⟨Ay, rfl, Ry, b⟩
  replace kk := below_on kk b
  replace RW := RW.below b
  replace Rx := Rx.below b
  replace RG := RG.below b
  have z7 : w6.heap.size ≤ w7.heap.size := b.size
  go_wp2_with fail
  refine (laws_eqReignS Ax Ay n0 n0 n0 xs0 HT0.out w7 Rx.rd Ry.rd).mono ?_
  rintro e w8 ⟨rfl, b⟩
  replace kk := below_on kk b
  replace RW := RW.below b
  replace Rx := Rx.below b
  replace RG := RG.below b
  replace Ry := Ry.below b
  have z8 : w7.heap.size ≤ w8.heap.size := b.size
  clear Ry
  go_wp2_with fail
  refine (laws_markReignS Ax n0 n0 _ _ xs0 1 (by omega) (by omega) HT0.out w8 Rx).mono ?_
  rintro e w9 ⟨rfl, hc⟩
  replace kk := kk.trans (hc.below (B0 := w.heap.size) (by omega) kk.size)
  have z9 : w8.heap.size ≤ w9.heap.size := hc.size
  replace RW := RW.chg hc (by omega)
  replace RG := RG.chg hc (by omega)
  clear Rx hc
  have hkk : ¬ (1 + 3 * (n0 : Int) < 0) := by omega
  go_wp2_with fail
  refine (Sets.laws_eqSpans AG AW _ _ _ V HL.out w9 RG.rd RW.rd).mono ?_
  rintro e w10 ⟨rfl, b⟩
  replace kk := below_on kk b
  replace RW := RW.below b
  replace RG := RG.below b
  have z10 : w9.heap.size ≤ w10.heap.size := b.size
  go_wp2_with fail
  refine (Sets.laws_mark AG _ _ _ _ V 1 (by omega) (by omega) HL.out w10 RG).mono ?_
  rintro e w11 ⟨rfl, RG', hc⟩
  replace kk := kk.trans (hc.below (B0 := w.heap.size) (by omega) kk.size)
  have z11 : w10.heap.size ≤ w11.heap.size := hc.size
  replace RW := RW.chg hc (by omega)
  clear RG hc
  have hqq : ¬ (1 + 2 * (V.length : Int) < 0) := by omega
  go_wp2_with fail
  refine (Sets.laws_held AG _ cG 1 (by omega) (by omega) HL.out w11 RG'.rd).mono ?_
  rintro e wz ⟨rfl, rfl⟩
  go_wp2_with fail
  refine (laws_toReignS A0 n0 c0 xs0 HT0.out w11 (h0.below kk)).mono ?_
  rintro e w12 ⟨At, rfl, Rt, b⟩
  replace kk := below_on kk b
  replace RW := RW.below b
  replace RG' := RG'.below b
  have z12 : w11.heap.size ≤ w12.heap.size := b.size
  go_wp2_with fail
  refine (HI.out At w12 Rt.rd).mono ?_
  rintro e w13 ⟨AH, cH, rfl, RH, b⟩
  replace kk := below_on kk b
  replace RW := RW.below b
  replace RG' := RG'.below b
  replace Rt := Rt.below b
  have z13 : w12.heap.size ≤ w13.heap.size := b.size
  clear Rt
  go_wp2_with fail
  refine (Sets.laws_eqSpans AH AW _ _ _ V HL.out w13 RH.rd RW.rd).mono ?_
  rintro e w14 ⟨rfl, b⟩
  replace kk := below_on kk b
  replace RW := RW.below b
  replace RG' := RG'.below b
  replace RH := RH.below b
  have z14 : w13.heap.size ≤ w14.heap.size := b.size
  go_wp2_with fail
  refine (Sets.laws_held AG _ cG 1 (by omega) (by omega) HL.out w14 RG'.rd).mono ?_
  rintro e wz ⟨rfl, rfl⟩
  go_wp2_with fail
  go_ret
  exact ⟨rfl, kk⟩

end Go.Proofs.Ytfhcakpmlppbkaa.Rei

