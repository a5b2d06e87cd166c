/- The walk of the law on RegnalText. -/
import Derived.Test.YthbbccckccdekaaDoorReiL
import Derived.Test.YthbbccckccdekaaDoorReiIr
namespace Go.Proofs.YthbbccckccdekaaDoor.Rei
open Go.RowKit
open Go.Proofs.YthbbccckccdekaaDoor.Sets (below_on)

set_option maxHeartbeats 4000000 in
set_option maxRecDepth 100000 in
theorem walk_FnExactRegnalText (A0 : Option Addr) (n0 c0 : Nat) (xs0 : LR) (hn0 : n0 ≤ maxLen) (x0 : Int) (_g0 : (Lit.int .i64 x0).wf = true) (w : World) (h0 : RdR w A0 n0 xs0) (ht : Sets.Tabs w) :
    Calls Tryd.prog 3 #[.slice A0 n0 c0, .int .i64 x0] w fun e w' => e = .returned (.bool true) ∧ Below w.heap.size w w' := by
  obtain ⟨V, E, HS, HI⟩ : ∃ (V : List UInt8) (E : Int), Hid (∀ (B : Option Addr) (wx : World), RdR wx B n0 xs0 → Calls Tryd.prog 5 #[.slice B n0 n0, .int .i64 x0] wx (TxE V E wx)) ∧ Hid (∀ (B : Option Addr) (wx : World), RdR wx B n0 xs0 → Sets.Tabs wx → Calls Tryd.prog 7 #[.slice B n0 n0, .int .i64 x0] wx (TxE V E wx)) :=
    ⟨_, _, Lib.hid fun B wx q => spec_RegnalText B n0 n0 xs0 hn0 x0 wx q, Lib.hid fun B wx q tb => impl_RegnalText B n0 n0 xs0 hn0 x0 wx q tb⟩
  have HZ := Lib.hid (fun wx q => laws_szReignS A0 n0 c0 xs0 hn0 wx q)
  have HTB := Lib.hid ht
  clear hn0 ht
  go_enter Tryd.func3, Tryd.ntmps3
  go_wp2_with fail
  refine (HZ.out _ h0).mono ?_
  rintro e w1 ⟨r, rfl, hr, kk⟩
  by_cases hneg : r < 0
  · clear hr
    go_wp2_with fail
    go_ret
    exact ⟨rfl, kk⟩
  have HT0 := Lib.hid (show n0 ≤ 2000000 from Nat.le_trans (hr (by omega)) (by omega))
  clear hr
  go_wp2_with fail
  refine (laws_toReignS A0 n0 c0 xs0 HT0.out w1 (h0.below kk)).mono ?_
  rintro e w2 ⟨As, rfl, Rs, b⟩
  replace kk := below_on kk b
  go_wp2_with fail
  refine (HS.out As w2 Rs.rd).mono ?_
  rintro e w3 ⟨rfl, b⟩
  replace kk := below_on kk b
  clear Rs
  go_wp2_with fail
  refine (laws_toReignS A0 n0 c0 xs0 HT0.out w3 (h0.below kk)).mono ?_
  rintro e w4 ⟨Ax, rfl, Rx, b⟩
  replace kk := below_on kk b
  go_wp2_with fail
  refine (HI.out Ax w4 Rx.rd (HTB.out.below kk)).mono ?_
  rintro e w5 ⟨rfl, b⟩
  replace kk := below_on kk b
  replace Rx := Rx.below b
  go_wp2_with fail
  refine (laws_toReignS A0 n0 c0 xs0 HT0.out w5 (h0.below kk)).mono ?_
  rintro e w6 ⟨Ay, rfl, Ry, b⟩
  replace kk := below_on kk b
  replace Rx := Rx.below b
  go_wp2_with fail
  refine (laws_eqReignS Ax Ay n0 n0 n0 xs0 HT0.out w6 Rx.rd Ry.rd).mono ?_
  rintro e w7 ⟨rfl, b⟩
  replace kk := below_on kk b
  go_wp2_with fail
  go_ret
  exact ⟨rfl, kk⟩

end Go.Proofs.YthbbccckccdekaaDoor.Rei
