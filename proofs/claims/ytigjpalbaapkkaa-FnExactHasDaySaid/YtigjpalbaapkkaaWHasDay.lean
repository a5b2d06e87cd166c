/- The walk of the law on HasDay. -/
import Derived.Test.YtigjpalbaapkkaaSetH
namespace Go.Proofs.Ytigjpalbaapkkaa.Sets
open Go.RowKit

set_option maxHeartbeats 4000000 in
set_option maxRecDepth 100000 in
theorem walk_FnExactHasDay (A0 : Option Addr) (n0 c0 : Nat) (xs0 : L) (hn0 : n0 ≤ maxLen) (d : Int) (hd : (Lit.int .i64 d).wf = true) (w : World) (h0 : Rd w A0 n0 xs0) :
    Calls Try.prog 14 #[.slice A0 n0 c0, .int .i64 d] w (Bl true w) := by
  have HD := Lib.hid hd
  clear hd
  have HZ0 := Lib.hid (fun wx => laws_sz A0 n0 c0 1048576 (by omega) (by omega) hn0 wx)
  by_cases hbig0 : (1048576 : Int) < n0
  · have r0 := Lib.hid (show (if (1048576 : Int) < (n0 : Int) then (-1 : Int) else 1048576 - (n0 : Int)) = -1 from if_pos hbig0)
    clear hbig0
    go_enter Try.func14, Try.ntmps14
    go_wp2_with fail
    refine (HZ0.out _).mono ?_
    rw [r0.out]
    rintro e w1 ⟨rfl, rfl⟩
    go_wp2_with fail
    go_ret
    exact ⟨rfl, Below.refl _ _⟩
  have r0 := Lib.hid (show (if (1048576 : Int) < (n0 : Int) then (-1 : Int) else 1048576 - (n0 : Int)) = 1048576 - (n0 : Int) from if_neg hbig0)
  have hp0 : ¬ (1048576 - (n0 : Int) < 0) := by omega
  have HN0 := Lib.hid hn0
  have hm0 : n0 ≤ 2000000 := by omega
  have HT0 := Lib.hid hm0
  clear hn0 hbig0 hm0
  go_enter Try.func14, Try.ntmps14
  go_wp2_with fail
  refine (HZ0.out _).mono ?_
  rw [r0.out]
  rintro e w1 ⟨rfl, rfl⟩
  have kk : Below w.heap.size w w := Below.refl _ _
  go_wp2_with fail
  refine (laws_toSpans A0 n0 c0 xs0 HT0.out w (h0.below kk)).mono ?_
  rintro e w2 ⟨As0, rfl, Rs0, b⟩
  replace kk := below_on kk b
  go_wp2_with fail
  refine (spec_HasDay As0 n0 n0 xs0 d HN0.out w2 Rs0.rd).mono ?_
  rintro e w3 ⟨rfl, b⟩
  replace kk := below_on kk b
  replace Rs0 := Rs0.below b
  clear Rs0
  go_wp2_with fail
  refine (laws_toSpans A0 n0 c0 xs0 HT0.out w3 (h0.below kk)).mono ?_
  rintro e w4 ⟨Ax0, rfl, Rx0, b⟩
  replace kk := below_on kk b
  go_wp2_with fail
  refine (impl_HasDay Ax0 n0 n0 xs0 d HN0.out w4 Rx0.rd).mono ?_
  rintro e w5 ⟨rfl, b⟩
  replace kk := below_on kk b
  replace Rx0 := Rx0.below b
  go_wp2_with fail
  refine (laws_toSpans A0 n0 c0 xs0 HT0.out w5 (h0.below kk)).mono ?_
  rintro e w6 ⟨Ay0, rfl, Ry0, b⟩
  replace kk := below_on kk b
  replace Rx0 := Rx0.below b
  go_wp2_with fail
  refine (laws_eqSpans Ax0 Ay0 n0 n0 n0 xs0 HT0.out w6 Rx0.rd Ry0.rd).mono ?_
  rintro e w7 ⟨rfl, b⟩
  replace kk := below_on kk b
  replace Rx0 := Rx0.below b
  replace Ry0 := Ry0.below b
  clear Ry0
  go_wp2_with fail
  go_ret
  exact ⟨rfl, kk⟩

end Go.Proofs.Ytigjpalbaapkkaa.Sets

