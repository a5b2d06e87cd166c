/- Contracts of spec's functions of chapter 1 that turn dates into days and days into dates. -/
import Derived.Test.YtfhcakpmlppbkaaGreatDoorDays
import Derived.Test.YtfhcakpmlppbkaaGreatDoorBlk
import Derived.Deep.LoopGhost
import Derived.Deep.RegionWith
namespace Go.Proofs.YtfhcakpmlppbkaaGreatDoor
open Go.RowKit

def inB (n lo hi : Int) : Bool := decide (lo ≤ n ∧ n ≤ hi)
theorem inB_true {n lo hi : Int} (h : lo ≤ n ∧ n ≤ hi) : inB n lo hi = true := by simp [inB, h]
theorem inB_false {n lo hi : Int} (h : ¬ (lo ≤ n ∧ n ≤ hi)) : inB n lo hi = false := by simp only [inB, h, decide_false]

set_option maxHeartbeats 400000 in
theorem spec_in (n lo hi : Int) (w : World) :
    Calls Tryz.prog 90 #[.int .i64 n, .int .i64 lo, .int .i64 hi] w fun e w' => e = .returned (.bool (inB n lo hi)) ∧ w = w' := by
  by_cases h1 : lo ≤ n
  · have hv := Lib.hid (show decide (n ≤ hi) = inB n lo hi by simp [inB, h1])
    go_enter Tryz.func90, Tryz.ntmps90
    go_wp2
    go_ret
    exact ⟨ret_bool hv.out, rfl⟩
  · have hv := Lib.hid (inB_false (n := n) (lo := lo) (hi := hi) (fun h => h1 h.1))
    have hd : decide (lo ≤ n) = false := by simpa using h1
    clear h1
    go_enter Tryz.func90, Tryz.ntmps90
    go_wp2
    go_ret
    exact ⟨ret_bool hv.out.symm, rfl⟩

set_option maxHeartbeats 400000 in
theorem spec_day (n : Int) (w : World) :
    Calls Tryz.prog 61 #[.int .i64 n] w fun e w' => e = .returned (.bool (inB n 0 730499)) ∧ w = w' := by
  go_enter Tryz.func61, Tryz.ntmps61
  go_wp2_with (go_at_call 90; refine (spec_in _ _ _ _).mono ?_; rintro e w' ⟨rfl, rfl⟩)
  go_ret
  exact ⟨rfl, rfl⟩

set_option maxHeartbeats 400000 in
theorem spec_leap (f : Bool) (y : Int) (h0 : 0 ≤ y) (w : World) :
    Calls Tryz.prog 120 #[.int .i64 y, .bool f] w fun e w' => e = .returned (.bool (Cal.lp f y)) ∧ w = w' := by
  cases f
  · go_enter Tryz.func120, Tryz.ntmps120
    go_wp2
    go_ret
    exact ⟨ret_bool (by simp [Cal.lp]), rfl⟩
  · by_cases h : y % 100 = 0
    · have hb : (y % 100 == 0) = true := by simpa using h
      have hL := Lib.hid (show (y % 400 == 0) = Cal.lp true y by simp [Cal.lp, h])
      clear h
      go_enter Tryz.func120, Tryz.ntmps120
      go_wp2
      go_ret
      exact ⟨ret_bool hL.out, rfl⟩
    · have hb : (y % 100 == 0) = false := by simpa using h
      have hL := Lib.hid (show (y % 4 == 0) = Cal.lp true y by simp [Cal.lp, h])
      clear h
      go_enter Tryz.func120, Tryz.ntmps120
      go_wp2
      go_ret
      exact ⟨ret_bool hL.out, rfl⟩

set_option maxHeartbeats 400000 in
theorem spec_mlen (f : Bool) (y m : Int) (h0 : 0 ≤ y) (w : World) :
    Calls Tryz.prog 138 #[.int .i64 y, .int .i64 m, .bool f] w fun e w' => e = .returned (.int .i64 (Cal.mlen f y m)) ∧ w = w' := by
  by_cases h2 : m = 2
  · subst h2
    go_enter Tryz.func138, Tryz.ntmps138
    go_wp2_with (go_at_call 120; refine (spec_leap f y h0 _).mono ?_; rintro e w' ⟨rfl, rfl⟩)
    all_goals
      go_ret
      exact ⟨ret_int (by simp [Cal.mlen, *]), rfl⟩
  · have hL := Lib.hid (show (if m = 4 ∨ m = 6 ∨ m = 9 ∨ m = 11 then 30 else 31) = Cal.mlen f y m by simp [Cal.mlen, h2])
    have h2b : (m == 2) = false := by simpa using h2
    clear h2
    go_enter Tryz.func138, Tryz.ntmps138
    go_wp2_with fail
    all_goals
      go_ret
      exact ⟨ret_int (by rw [← hL.out]; simp_all), rfl⟩

theorem spec_in_as (n lo hi : Int) (b : Bool) (h : inB n lo hi = b) (w : World) (k : Nat) :
    Calls Tryz.prog 90 #[.int .i64 n, .int .i64 lo, .int .i64 hi] (w.drewN k) fun e w'' => e = .returned (.bool b) ∧ ∃ m, w'' = w.drewN m :=
  Calls.quiet_of_same ((spec_in n lo hi _).mono fun _ _ ⟨a, c⟩ => ⟨by rw [a, h], c.symm⟩)

set_option maxHeartbeats 400000 in
theorem spec_number_old (y m d : Int) (y1 : 1 ≤ y) (y2 : y ≤ 2001) (m1 : 1 ≤ m) (m2 : m ≤ 13) (d1 : -1000 ≤ d) (d2 : d ≤ 1000000) (w : World) :
    Calls Tryz.prog 110 #[.agg #[.int .i64 y, .int .i64 m, .int .i64 d], .bool false] w fun e w' => e = .returned (.int .i64 (Cal.num false y m d)) ∧ Below w.heap.size w w' := by
  have hh := Lib.hid (show 365 * (y - 1) + (y - 1) / 4 + d - 1 = Cal.ys false y + d - 1 + Cal.cum false y 1 by rw [Cal.cum_one]; simp [Cal.ys]; omega)
  have yb := Cal.ys_bd false y y1 (by omega)
  go_enter Tryz.func110, Tryz.ntmps110
  go_wp2_with fail
  go_loop [6, 7] (fun s k => ∃ j : Int, 1 ≤ j ∧ j ≤ m ∧ k = .int .i64 j ∧ s = .int .i64 (Cal.ys false y + d - 1 + Cal.cum false y j)) (fun _ k => (m - intOf k).toNat)
  case atStart => exact ⟨1, by omega, by omega, rfl, by rw [hh.out]⟩
  case round =>
    obtain ⟨j, hj1, hj2, rfl, rfl⟩ := hrel
    have cb := Cal.cum_bd false y j hj1 (by omega)
    have ml := Cal.mlen_bd false y j
    have cs := Lib.hid (Cal.cum_succ false y j hj1)
    by_cases hlt : j < m
    · go_wp2_with (go_at_call 138; refine (spec_mlen false y j (by omega) _).mono ?_; rintro e w2 ⟨rfl, rfl⟩)
      go_round
      case rel => exact ⟨j + 1, by omega, by omega, rfl, by rw [cs.out]; go_num⟩
      case measure => simp [intOf]; omega
    · have hm := Lib.hid (show j = m by omega)
      go_wp2_with fail
      go_ret
      exact ⟨ret_int (by rw [hm.out]; unfold Cal.num; omega), (Below.refl _ _).alloc (Nat.le_refl _) _⟩

set_option maxHeartbeats 400000 in
theorem spec_number_new (y m d : Int) (y1 : 1 ≤ y) (y2 : y ≤ 2001) (m1 : 1 ≤ m) (m2 : m ≤ 13) (d1 : -1000 ≤ d) (d2 : d ≤ 1000000) (w : World) :
    Calls Tryz.prog 110 #[.agg #[.int .i64 y, .int .i64 m, .int .i64 d], .bool true] w fun e w' => e = .returned (.int .i64 (Cal.num true y m d)) ∧ Below w.heap.size w w' := by
  have hh := Lib.hid (show 365 * (y - 1) + (y - 1) / 4 + d - 1 - (y - 1) / 100 + (y - 1) / 400 + 2 = Cal.ys true y + d - 1 + Cal.cum true y 1 by rw [Cal.cum_one]; simp [Cal.ys]; omega)
  have yb := Cal.ys_bd true y y1 (by omega)
  go_enter Tryz.func110, Tryz.ntmps110
  go_wp2_with fail
  go_loop [6, 7] (fun s k => ∃ j : Int, 1 ≤ j ∧ j ≤ m ∧ k = .int .i64 j ∧ s = .int .i64 (Cal.ys true y + d - 1 + Cal.cum true y j)) (fun _ k => (m - intOf k).toNat)
  case atStart => exact ⟨1, by omega, by omega, rfl, by rw [hh.out]⟩
  case round =>
    obtain ⟨j, hj1, hj2, rfl, rfl⟩ := hrel
    have cb := Cal.cum_bd true y j hj1 (by omega)
    have ml := Cal.mlen_bd true y j
    have cs := Lib.hid (Cal.cum_succ true y j hj1)
    by_cases hlt : j < m
    · go_wp2_with (go_at_call 138; refine (spec_mlen true y j (by omega) _).mono ?_; rintro e w2 ⟨rfl, rfl⟩)
      go_round
      case rel => exact ⟨j + 1, by omega, by omega, rfl, by rw [cs.out]; go_num⟩
      case measure => simp [intOf]; omega
    · have hm := Lib.hid (show j = m by omega)
      go_wp2_with fail
      go_ret
      exact ⟨ret_int (by rw [hm.out]; unfold Cal.num; omega), (Below.refl _ _).alloc (Nat.le_refl _) _⟩

theorem spec_number (f : Bool) (y m d : Int) (y1 : 1 ≤ y) (y2 : y ≤ 2001) (m1 : 1 ≤ m) (m2 : m ≤ 13) (d1 : -1000 ≤ d) (d2 : d ≤ 1000000) (w : World) :
    Calls Tryz.prog 110 #[.agg #[.int .i64 y, .int .i64 m, .int .i64 d], .bool f] w fun e w' => e = .returned (.int .i64 (Cal.num f y m d)) ∧ Below w.heap.size w w' := by
  cases f
  · exact spec_number_old y m d y1 y2 m1 m2 d1 d2 w
  · exact spec_number_new y m d y1 y2 m1 m2 d1 d2 w

end Go.Proofs.YtfhcakpmlppbkaaGreatDoor
