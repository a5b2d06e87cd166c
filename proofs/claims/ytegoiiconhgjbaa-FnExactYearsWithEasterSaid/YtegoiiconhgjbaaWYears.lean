/- The walk of the law on YearsWithEaster. -/
import Derived.Test.YtegoiiconhgjbaaEasX
namespace Go.Proofs.Ytegoiiconhgjbaa.Eas
open Go.RowKit
open Go.Proofs.Ytegoiiconhgjbaa.Ints (Rd Row laws_eqInts laws_mark laws_held marks)

set_option maxHeartbeats 4000000 in
set_option maxRecDepth 100000 in
theorem walk_FnExactYearsWithEaster (m : Int) (_h0 : (Lit.int .i64 m).wf = true) (d : Int) (_h1 : (Lit.int .i64 d).wf = true) (f : Int) (_h2 : (Lit.int .i64 f).wf = true) (t : Int) (_h3 : (Lit.int .i64 t).wf = true) (w : World) :
    Calls Try.prog 9 #[.int .i64 m, .int .i64 d, .int .i64 f, .int .i64 t] w (Bl true w) := by
  obtain ⟨V, E, HL, HS, HI⟩ : ∃ (V : List Int) (E : Int), Hid (V.length ≤ 2000000) ∧ Hid (∀ wx : World, Calls Try.prog 26 #[.int .i64 m, .int .i64 d, .int .i64 f, .int .i64 t] wx (IntsOut V E wx)) ∧ Hid (∀ wx : World, Calls Try.prog 25 #[.int .i64 m, .int .i64 d, .int .i64 f, .int .i64 t] wx (IntsOut V E wx)) :=
    ⟨_, _, Lib.hid (ywL_len m d f t), Lib.hid fun wx => spec_YearsWithEaster m d f t wx, Lib.hid fun wx => impl_YearsWithEaster m d f t wx⟩
  clear _h0 _h1 _h2 _h3
  go_enter Try.func9, Try.ntmps9
  go_wp2_with fail
  refine (HS.out _).mono ?_
  rintro e w1 ⟨AW, cW, rfl, RW, kk⟩
  have z1 : w.heap.size ≤ w1.heap.size := kk.size
  go_wp2_with fail
  refine (HI.out _).mono ?_
  rintro e w2 ⟨AG, cG, rfl, RG, b⟩
  replace kk := kk.trans (b.mono kk.size)
  replace RW := RW.below b
  have z2 : w1.heap.size ≤ w2.heap.size := b.size
  go_wp2_with fail
  refine (laws_eqInts AG AW _ _ _ V HL.out w2 RG.rd RW.rd).mono ?_
  rintro e w5 ⟨rfl, b⟩
  replace kk := kk.trans (b.mono kk.size)
  replace RW := RW.below b
  replace RG := RG.below b
  have z5 : w2.heap.size ≤ w5.heap.size := b.size
  go_wp2_with fail
  refine (laws_mark AG _ _ _ _ V 1 (by omega) (by omega) HL.out w5 RG).mono ?_
  rintro e w3 ⟨rfl, RG', hc⟩
  replace kk := kk.trans (hc.below (B0 := w.heap.size) (by omega) kk.size)
  have z3 : w5.heap.size ≤ w3.heap.size := hc.size
  replace RW := RW.chg hc (by omega)
  clear RG hc
  have hqq : ¬ (1 + (V.length : Int) < 0) := by omega
  go_wp2_with fail
  refine (laws_held AG _ cG 1 (by omega) (by omega) HL.out w3 RG'.rd).mono ?_
  rintro e wz ⟨rfl, rfl⟩
  go_wp2_with fail
  refine (HI.out _).mono ?_
  rintro e w4 ⟨AH, cH, rfl, RH, b⟩
  replace kk := kk.trans (b.mono kk.size)
  replace RW := RW.below b
  replace RG' := RG'.below b
  have z4 : w3.heap.size ≤ w4.heap.size := b.size
  go_wp2_with fail
  refine (laws_eqInts AH AW _ _ _ V HL.out w4 RH.rd RW.rd).mono ?_
  rintro e w6 ⟨rfl, b⟩
  replace kk := kk.trans (b.mono kk.size)
  replace RG' := RG'.below b
  go_wp2_with fail
  refine (laws_held AG _ cG 1 (by omega) (by omega) HL.out w6 RG'.rd).mono ?_
  rintro e wz ⟨rfl, rfl⟩
  go_wp2_with fail
  go_ret
  exact ⟨rfl, kk⟩

end Go.Proofs.Ytegoiiconhgjbaa.Eas
