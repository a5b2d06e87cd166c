/- Texts of a claim in one file: Days3 DaysS. -/
import Derived.Test.YtfhcakpmlppbkaaDoorGrpAc
import Derived.Test.YtfhcakpmlppbkaaDoorGrpAd
import Derived.StillTailTactics
import Derived.StillTactics
import Derived.Laws.Rows
import Derived.Deep.LoopGhost
import Derived.Deep.RegionWith
namespace Go.Proofs.YtfhcakpmlppbkaaDoor
open Go.RowKit

set_option maxHeartbeats 400000 in
theorem impl_date_no (f : Bool) (n : Int) (h : n < Cal.ys f 1 ∨ Cal.ys f 2001 ≤ n) (w : World) :
    Calls Tryd.prog 50 #[.int .i64 (rk f), .int .i64 n] w fun e w' => e = .returned (.tuple #[.agg #[.int .i64 0, .int .i64 0, .int .i64 0], .int .i64 2]) ∧ Below w.heap.size w w' := by
  have b1 := Cal.ys_bd f 1 (by omega) (by omega)
  have b2 := Cal.ys_bd f 2001 (by omega) (by omega)
  have b3 := Cal.ys_mono f 1 2001 (by omega)
  by_cases hl : n < Cal.ys f 1
  · clear h
    go_enter Tryd.func50, Tryd.ntmps50
    go_wp2_with (go_at_call 69; refine (impl_ys f _ (by omega) (by omega) _).mono ?_; rintro e w' ⟨rfl, rfl⟩)
    exact bodyPost_ret (v := .tuple #[.agg #[.int .i64 0, .int .i64 0, .int .i64 0], .int .i64 2]) (by simp [results, Tryd.results50, go_sem]) rfl ⟨rfl, (Below.refl _ _).alloc (Nat.le_refl _) _⟩
  · have h' : Cal.ys f 2001 ≤ n := by omega
    clear h
    go_enter Tryd.func50, Tryd.ntmps50
    go_wp2_with (go_at_call 69; refine (impl_ys f _ (by omega) (by omega) _).mono ?_; rintro e w' ⟨rfl, rfl⟩)
    exact bodyPost_ret (v := .tuple #[.agg #[.int .i64 0, .int .i64 0, .int .i64 0], .int .i64 2]) (by simp [results, Tryd.results50, go_sem]) rfl ⟨rfl, (Below.refl _ _).alloc (Nat.le_refl _) _⟩

/-- What a call that finds a date leaves: the one date with the number n, nothing that was there changed. -/
def SomeDate (f : Bool) (n : Int) (w : World) (e : Ending) (w' : World) : Prop :=
  ∃ y m d : Int, e = .returned (.tuple #[.agg #[.int .i64 y, .int .i64 m, .int .i64 d], .int .i64 0]) ∧ Cal.valid f y m d ∧ Cal.num f y m d = n ∧ Below w.heap.size w w'

/-- The state of the loop over the months: the year is right, the days of the months before have been taken off. -/
def DateLoop (f : Bool) (n : Int) (w : World) (g : Nat) (wr : World) : Prop :=
  ∃ y m : Int, 1 ≤ y ∧ y ≤ 2000 ∧ 1 ≤ m ∧ m ≤ 12 ∧ g = (12 - m).toNat ∧ Cal.ys f y ≤ n ∧ n < Cal.ys f (y + 1) ∧ 1 ≤ n - Cal.ys f y - Cal.cum f y m + 1 ∧
    Blk wr w.heap.size 75 #[.int .i64 0, .int .i64 0, .int .i64 0] ∧
    Blk wr (w.heap.size + 1) 75 #[.int .i64 y, .int .i64 m, .int .i64 (n - Cal.ys f y - Cal.cum f y m + 1)] ∧ Below w.heap.size w wr

set_option maxHeartbeats 1000000 in
set_option maxRecDepth 10000 in
theorem impl_date (f : Bool) (n : Int) (h1 : Cal.ys f 1 ≤ n) (h2 : n < Cal.ys f 2001) (w : World) :
    Calls Tryd.prog 50 #[.int .i64 (rk f), .int .i64 n] w (SomeDate f n w) := by
  have b1 := Cal.ys_bd f 1 (by omega) (by omega)
  have b2 := Cal.ys_bd f 2001 (by omega) (by omega)
  have g1 := Cal.guess_lo f n h1
  have g2 := Cal.guess_hi f n h1 h2
  have g3 := Cal.guess_bd f n h1 h2
  have g4 := Cal.ys_bd f (1 + (n - Cal.ys f 1) * 4 / 1461) (by omega) (by omega)
  have g5 := Cal.ys_bd f (1 + (n - Cal.ys f 1) * 4 / 1461 + 1) (by omega) (by omega)
  by_cases hg : Cal.ys f (1 + (n - Cal.ys f 1) * 4 / 1461 + 1) ≤ n
  all_goals
    go_enter Tryd.func50, Tryd.ntmps50
    go_wp2_with (go_at_call 69; refine (impl_ys f _ (by omega) (by omega) _).mono ?_; rintro e w' ⟨rfl, rfl⟩)
    go_loopg [] 11 (fun g wr => DateLoop f n w g wr)
    case atStart =>
      by_cases hg' : Cal.ys f (1 + (n - Cal.ys f 1) * 4 / 1461 + 1) ≤ n
      · have y20 : 1 + (n - Cal.ys f 1) * 4 / 1461 + 1 ≤ 2000 := by
          apply Classical.byContradiction
          intro h'
          have := Cal.ys_mono f 2001 (1 + (n - Cal.ys f 1) * 4 / 1461 + 1) (by omega)
          omega
        have g2' : n < Cal.ys f (1 + (n - Cal.ys f 1) * 4 / 1461 + 1 + 1) := by rw [show 1 + (n - Cal.ys f 1) * 4 / 1461 + 1 + 1 = 1 + (n - Cal.ys f 1) * 4 / 1461 + 2 by omega]; exact g2
        first
          | (exfalso; omega)
          | exact ⟨1 + (n - Cal.ys f 1) * 4 / 1461 + 1, 1, by omega, by omega, by omega, by omega, rfl, hg', g2', by rw [Cal.cum_one]; omega, (Blk.new _ _ _).alloc _, by simpa [Cal.cum_one] using Blk.new (w.alloc _) _ _, ((Below.refl _ _).alloc (Nat.le_refl _) _).alloc (by simp) _⟩
      · first
          | (exfalso; omega)
          | exact ⟨1 + (n - Cal.ys f 1) * 4 / 1461, 1, by omega, by omega, by omega, by omega, rfl, g1, by omega, by rw [Cal.cum_one]; omega, (Blk.new _ _ _).alloc _, by simpa [Cal.cum_one] using Blk.new (w.alloc _) _ _, ((Below.refl _ _).alloc (Nat.le_refl _) _).alloc (by simp) _⟩
    case round =>
      obtain ⟨Y, m, y1, y2, m1, m2, hg, hlo, hhi, hd, k0, k1, hbel⟩ := hrel
      subst hg
      have c0 := k1.cell 0
      have c1 := k1.cell 1
      have c2 := k1.cell 2
      have z0 := k1.frozen 1
      have z1 := k1.frozen 2
      simp at c0 c1 c2
      have ml := Cal.mlen_bd f Y m
      have yb := Cal.ys_bd f Y (by omega) (by omega)
      have cb := Cal.cum_bd f Y m (by omega) (by omega)
      have cs := Lib.hid (Cal.cum_succ f Y m m1)
      have m12 : Cal.mlen f Y m < n - Cal.ys f Y - Cal.cum f Y m + 1 → m < 12 := by
        intro h
        apply Classical.byContradiction
        intro h'
        have e12 : m = 12 := by omega
        subst e12
        have a1 := Cal.cum_succ f Y 12 (by omega)
        have a2 := Cal.cum_13 f Y
        have a3 := Cal.ys_succ f Y
        rw [show (12 : Int) + 1 = 13 from rfl] at a1
        omega
      by_cases hlt : Cal.mlen f Y m < n - Cal.ys f Y - Cal.cum f Y m + 1
      · have m12' := m12 hlt
        clear m12
        go_wp2_with fail
        go_quiet ((go_at_call 70; exact Calls.quiet_of_same ((impl_mlen f Y m (by omega) _).mono fun _ _ ⟨a, b⟩ => ⟨a, b.symm⟩)))
        go_wp2_with fail
        refine wp_region_still_tail 10 (by kernel_rfl) (by kernel_rfl) ?_
        change wpStill _ _ ((wr.drewN nq).drew) (fun a => wpList _ _ _ _ a ((wr.drewN nq).drew)) _ _
        have q0 : Blk ((wr.drewN nq).drew) w.heap.size _ _ := (k0.drewN nq).drew
        have q1 : Blk ((wr.drewN nq).drew) (w.heap.size + 1) _ _ := (k1.drewN nq).drew
        have q2 : Below w.heap.size w ((wr.drewN nq).drew) := (below_drewN hbel nq).drew
        generalize (wr.drewN nq).drew = w2 at q0 q1 q2 ⊢
        clear k0 k1 hbel c0 c1 c2 z0 z1
        have c0 := q1.cell 0
        have c1 := q1.cell 1
        have c2 := q1.cell 2
        have z0 := q1.frozen 1
        have z1 := q1.frozen 2
        simp at c0 c1 c2
        simp only [List.take_succ_cons, List.take_zero, List.drop_succ_cons, List.drop_zero]
        iterate 7 still_step
        still_call ((impl_mlen f Y m (by omega) _).mono fun _ _ ⟨a, b⟩ => ⟨a, b.symm⟩)
        iterate 2 still_step
        refine wpStill_nil ?_
        go_wp2_with fail
        go_roundg (12 - (m + 1)).toNat
        case measure => omega
        case rel =>
          refine ⟨Y, m + 1, y1, y2, by omega, by omega, rfl, hlo, hhi, by rw [cs.out]; omega, ?_, ?_, ?_⟩
          · exact (q0.far (by simp) _).far (by simp) _
          · rw [show n - Cal.ys f Y - Cal.cum f Y (m + 1) + 1 = n - Cal.ys f Y - Cal.cum f Y m + 1 - Cal.mlen f Y m by rw [cs.out]; omega]
            simpa using (q1.set_ 2 _).set_ 1 _
          · exact (q2.setCell (by simp) _).setCell (by simp) _
      · clear m12
        go_wp2_with fail
        go_quiet ((go_at_call 70; exact Calls.quiet_of_same ((impl_mlen f Y m (by omega) _).mono fun _ _ ⟨a, b⟩ => ⟨a, b.symm⟩)))
        have e0 := k0.cell 0
        have e1 := k0.cell 1
        have e2 := k0.cell 2
        have x0 := k0.frozen 0
        have x1 := k0.frozen 1
        have x2 := k0.frozen 2
        simp at e0 e1 e2
        go_wp2_with fail
        refine bodyPost_ret (v := .tuple #[.agg #[.int .i64 Y, .int .i64 m, .int .i64 (n - Cal.ys f Y - Cal.cum f Y m + 1)], .int .i64 0]) (by simp [results, Tryd.results50, go_sem, e0, e1, e2]) rfl ⟨Y, m, _, rfl, ⟨y1, y2, m1, m2, hd, hlt⟩, by unfold Cal.num; omega, ?_⟩
        exact (((below_drewN hbel nq).setCell (Nat.le_refl _) _).setCell (Nat.le_refl _) _).setCell (Nat.le_refl _) _

end Go.Proofs.YtfhcakpmlppbkaaDoor

namespace Go.Proofs.YtfhcakpmlppbkaaDoor
open Go.RowKit

def inB (n lo hi : Int) : Bool := decide (lo ≤ n ∧ n ≤ hi)
theorem inB_true {n lo hi : Int} (h : lo ≤ n ∧ n ≤ hi) : inB n lo hi = true := by simp [inB, h]
theorem inB_false {n lo hi : Int} (h : ¬ (lo ≤ n ∧ n ≤ hi)) : inB n lo hi = false := by simp only [inB, h, decide_false]

set_option maxHeartbeats 400000 in
theorem spec_in (n lo hi : Int) (w : World) :
    Calls Tryd.prog 42 #[.int .i64 n, .int .i64 lo, .int .i64 hi] w fun e w' => e = .returned (.bool (inB n lo hi)) ∧ w = w' := by
  by_cases h1 : lo ≤ n
  · have hv := Lib.hid (show decide (n ≤ hi) = inB n lo hi by simp [inB, h1])
    go_enter Tryd.func42, Tryd.ntmps42
    go_wp2
    go_ret
    exact ⟨ret_bool hv.out, rfl⟩
  · have hv := Lib.hid (inB_false (n := n) (lo := lo) (hi := hi) (fun h => h1 h.1))
    have hd : decide (lo ≤ n) = false := by simpa using h1
    clear h1
    go_enter Tryd.func42, Tryd.ntmps42
    go_wp2
    go_ret
    exact ⟨ret_bool hv.out.symm, rfl⟩

set_option maxHeartbeats 400000 in
theorem spec_day (n : Int) (w : World) :
    Calls Tryd.prog 25 #[.int .i64 n] w fun e w' => e = .returned (.bool (inB n 0 730499)) ∧ w = w' := by
  go_enter Tryd.func25, Tryd.ntmps25
  go_wp2_with (go_at_call 42; refine (spec_in _ _ _ _).mono ?_; rintro e w' ⟨rfl, rfl⟩)
  go_ret
  exact ⟨rfl, rfl⟩

set_option maxHeartbeats 400000 in
theorem spec_leap (f : Bool) (y : Int) (h0 : 0 ≤ y) (w : World) :
    Calls Tryd.prog 62 #[.int .i64 y, .bool f] w fun e w' => e = .returned (.bool (Cal.lp f y)) ∧ w = w' := by
  cases f
  · go_enter Tryd.func62, Tryd.ntmps62
    go_wp2
    go_ret
    exact ⟨ret_bool (by simp [Cal.lp]), rfl⟩
  · by_cases h : y % 100 = 0
    · have hb : (y % 100 == 0) = true := by simpa using h
      have hL := Lib.hid (show (y % 400 == 0) = Cal.lp true y by simp [Cal.lp, h])
      clear h
      go_enter Tryd.func62, Tryd.ntmps62
      go_wp2
      go_ret
      exact ⟨ret_bool hL.out, rfl⟩
    · have hb : (y % 100 == 0) = false := by simpa using h
      have hL := Lib.hid (show (y % 4 == 0) = Cal.lp true y by simp [Cal.lp, h])
      clear h
      go_enter Tryd.func62, Tryd.ntmps62
      go_wp2
      go_ret
      exact ⟨ret_bool hL.out, rfl⟩

set_option maxHeartbeats 400000 in
theorem spec_mlen (f : Bool) (y m : Int) (h0 : 0 ≤ y) (w : World) :
    Calls Tryd.prog 79 #[.int .i64 y, .int .i64 m, .bool f] w fun e w' => e = .returned (.int .i64 (Cal.mlen f y m)) ∧ w = w' := by
  by_cases h2 : m = 2
  · subst h2
    go_enter Tryd.func79, Tryd.ntmps79
    go_wp2_with (go_at_call 62; refine (spec_leap f y h0 _).mono ?_; rintro e w' ⟨rfl, rfl⟩)
    all_goals
      go_ret
      exact ⟨ret_int (by simp [Cal.mlen, *]), rfl⟩
  · have hL := Lib.hid (show (if m = 4 ∨ m = 6 ∨ m = 9 ∨ m = 11 then 30 else 31) = Cal.mlen f y m by simp [Cal.mlen, h2])
    have h2b : (m == 2) = false := by simpa using h2
    clear h2
    go_enter Tryd.func79, Tryd.ntmps79
    go_wp2_with fail
    all_goals
      go_ret
      exact ⟨ret_int (by rw [← hL.out]; simp_all), rfl⟩

theorem spec_in_as (n lo hi : Int) (b : Bool) (h : inB n lo hi = b) (w : World) (k : Nat) :
    Calls Tryd.prog 42 #[.int .i64 n, .int .i64 lo, .int .i64 hi] (w.drewN k) fun e w'' => e = .returned (.bool b) ∧ ∃ m, w'' = w.drewN m :=
  Calls.quiet_of_same ((spec_in n lo hi _).mono fun _ _ ⟨a, c⟩ => ⟨by rw [a, h], c.symm⟩)

set_option maxHeartbeats 400000 in
theorem spec_number_old (y m d : Int) (y1 : 1 ≤ y) (y2 : y ≤ 2001) (m1 : 1 ≤ m) (m2 : m ≤ 13) (d1 : -1000 ≤ d) (d2 : d ≤ 1000000) (w : World) :
    Calls Tryd.prog 63 #[.agg #[.int .i64 y, .int .i64 m, .int .i64 d], .bool false] w fun e w' => e = .returned (.int .i64 (Cal.num false y m d)) ∧ Below w.heap.size w w' := by
  have hh := Lib.hid (show 365 * (y - 1) + (y - 1) / 4 + d - 1 = Cal.ys false y + d - 1 + Cal.cum false y 1 by rw [Cal.cum_one]; simp [Cal.ys]; omega)
  have yb := Cal.ys_bd false y y1 (by omega)
  go_enter Tryd.func63, Tryd.ntmps63
  go_wp2_with fail
  go_loop [6, 7] (fun s k => ∃ j : Int, 1 ≤ j ∧ j ≤ m ∧ k = .int .i64 j ∧ s = .int .i64 (Cal.ys false y + d - 1 + Cal.cum false y j)) (fun _ k => (m - intOf k).toNat)
  case atStart => exact ⟨1, by omega, by omega, rfl, by rw [hh.out]⟩
  case round =>
    obtain ⟨j, hj1, hj2, rfl, rfl⟩ := hrel
    have cb := Cal.cum_bd false y j hj1 (by omega)
    have ml := Cal.mlen_bd false y j
    have cs := Lib.hid (Cal.cum_succ false y j hj1)
    by_cases hlt : j < m
    · go_wp2_with (go_at_call 79; refine (spec_mlen false y j (by omega) _).mono ?_; rintro e w2 ⟨rfl, rfl⟩)
      go_round
      case rel => exact ⟨j + 1, by omega, by omega, rfl, by rw [cs.out]; go_num⟩
      case measure => simp [intOf]; omega
    · have hm := Lib.hid (show j = m by omega)
      go_wp2_with fail
      go_ret
      exact ⟨ret_int (by rw [hm.out]; unfold Cal.num; omega), (Below.refl _ _).alloc (Nat.le_refl _) _⟩

set_option maxHeartbeats 400000 in
theorem spec_number_new (y m d : Int) (y1 : 1 ≤ y) (y2 : y ≤ 2001) (m1 : 1 ≤ m) (m2 : m ≤ 13) (d1 : -1000 ≤ d) (d2 : d ≤ 1000000) (w : World) :
    Calls Tryd.prog 63 #[.agg #[.int .i64 y, .int .i64 m, .int .i64 d], .bool true] w fun e w' => e = .returned (.int .i64 (Cal.num true y m d)) ∧ Below w.heap.size w w' := by
  have hh := Lib.hid (show 365 * (y - 1) + (y - 1) / 4 + d - 1 - (y - 1) / 100 + (y - 1) / 400 + 2 = Cal.ys true y + d - 1 + Cal.cum true y 1 by rw [Cal.cum_one]; simp [Cal.ys]; omega)
  have yb := Cal.ys_bd true y y1 (by omega)
  go_enter Tryd.func63, Tryd.ntmps63
  go_wp2_with fail
  go_loop [6, 7] (fun s k => ∃ j : Int, 1 ≤ j ∧ j ≤ m ∧ k = .int .i64 j ∧ s = .int .i64 (Cal.ys true y + d - 1 + Cal.cum true y j)) (fun _ k => (m - intOf k).toNat)
  case atStart => exact ⟨1, by omega, by omega, rfl, by rw [hh.out]⟩
  case round =>
    obtain ⟨j, hj1, hj2, rfl, rfl⟩ := hrel
    have cb := Cal.cum_bd true y j hj1 (by omega)
    have ml := Cal.mlen_bd true y j
    have cs := Lib.hid (Cal.cum_succ true y j hj1)
    by_cases hlt : j < m
    · go_wp2_with (go_at_call 79; refine (spec_mlen true y j (by omega) _).mono ?_; rintro e w2 ⟨rfl, rfl⟩)
      go_round
      case rel => exact ⟨j + 1, by omega, by omega, rfl, by rw [cs.out]; go_num⟩
      case measure => simp [intOf]; omega
    · have hm := Lib.hid (show j = m by omega)
      go_wp2_with fail
      go_ret
      exact ⟨ret_int (by rw [hm.out]; unfold Cal.num; omega), (Below.refl _ _).alloc (Nat.le_refl _) _⟩

theorem spec_number (f : Bool) (y m d : Int) (y1 : 1 ≤ y) (y2 : y ≤ 2001) (m1 : 1 ≤ m) (m2 : m ≤ 13) (d1 : -1000 ≤ d) (d2 : d ≤ 1000000) (w : World) :
    Calls Tryd.prog 63 #[.agg #[.int .i64 y, .int .i64 m, .int .i64 d], .bool f] w fun e w' => e = .returned (.int .i64 (Cal.num f y m d)) ∧ Below w.heap.size w w' := by
  cases f
  · exact spec_number_old y m d y1 y2 m1 m2 d1 d2 w
  · exact spec_number_new y m d y1 y2 m1 m2 d1 d2 w

end Go.Proofs.YtfhcakpmlppbkaaDoor
