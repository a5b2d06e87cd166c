/- The walk of the law on IsSet. -/
import Derived.Test.YtochicfflmcfkaaSetI
namespace Go.Proofs.Ytochicfflmcfkaa.Sets
open Go.RowKit

/-- How the laws begin: the length of a slice that came in. -/
theorem sz_some (n : Nat) (h : (1048576 : Int) < n) : (if (1048576 : Int) < (n : Int) then (-1 : Int) else 1048576 - (n : Int)) = -1 := if_pos h
theorem sz_none (n : Nat) (h : ¬ (1048576 : Int) < n) : (if (1048576 : Int) < (n : Int) then (-1 : Int) else 1048576 - (n : Int)) = 1048576 - (n : Int) := if_neg h

set_option maxHeartbeats 1000000 in
set_option maxRecDepth 10000 in
theorem walk_FnExactIsSet (A : Option Addr) (n c : Nat) (xs : L) (hn : n ≤ maxLen) (w : World) (h : Rd w A n xs) :
    Calls Try.prog 5 #[.slice A n c] w (Bl true w) := by
  have HZ := Lib.hid (fun wx => laws_sz A n c 1048576 (by omega) (by omega) hn wx)
  by_cases hbig : (1048576 : Int) < n
  · have r := Lib.hid (sz_some n hbig)
    clear hbig
    go_enter Try.func5, Try.ntmps5
    go_wp2_with fail
    refine (HZ.out _).mono ?_
    rw [r.out]
    rintro e w1 ⟨rfl, rfl⟩
    go_wp2_with fail
    go_ret
    exact ⟨rfl, Below.refl _ _⟩
  · have r := Lib.hid (sz_none n hbig)
    have hn2 : n ≤ 2000000 := by omega
    have hp : ¬ (1048576 - (n : Int) < 0) := by omega
    have HN := Lib.hid hn
    have HN2 := Lib.hid hn2
    clear hn hn2 hbig
    go_enter Try.func5, Try.ntmps5
    go_wp2_with fail
    refine (HZ.out _).mono ?_
    rw [r.out]
    rintro e w1 ⟨rfl, rfl⟩
    go_wp2_with fail
    refine (laws_toSpans A n c xs HN2.out w h).mono ?_
    rintro e w1 ⟨A1, rfl, r1, b1⟩
    go_wp2_with fail
    refine (spec_IsSet A1 n n xs HN.out w1 r1.rd).mono ?_
    rintro e w2 ⟨rfl, b2⟩
    have k2 := below_on b1 b2
    go_wp2_with fail
    refine (laws_toSpans A n c xs HN2.out w2 (h.below k2)).mono ?_
    rintro e w3 ⟨A3, rfl, r3, b3⟩
    have k3 := below_on k2 b3
    go_wp2_with fail
    refine (impl_IsSet A3 n n xs HN.out w3 r3.rd).mono ?_
    rintro e w4 ⟨rfl, b4⟩
    have k4 := below_on k3 b4
    have q3 := r3.below b4
    go_wp2_with fail
    refine (laws_toSpans A n c xs HN2.out w4 (h.below k4)).mono ?_
    rintro e w5 ⟨A5, rfl, r5, b5⟩
    have k5 := below_on k4 b5
    go_wp2_with fail
    refine (laws_eqSpans A3 A5 n n n xs HN2.out w5 (q3.below b5).rd r5.rd).mono ?_
    rintro e w6 ⟨rfl, b6⟩
    have k6 := below_on k5 b6
    go_wp2_with fail
    go_ret
    exact ⟨rfl, k6⟩

end Go.Proofs.Ytochicfflmcfkaa.Sets
