/- Contracts of impl's function that turns days into dates. -/
import Derived.Test.YtfhcakpmlppbkaaGreatDoorDays
import Derived.Test.YtfhcakpmlppbkaaGreatDoorBlk
import Derived.StillTailTactics
import Derived.StillTactics
import Derived.Laws.Rows
import Derived.Deep.LoopGhost
namespace Go.Proofs.YtfhcakpmlppbkaaGreatDoor
open Go.RowKit

set_option maxHeartbeats 400000 in
theorem impl_date_no (f : Bool) (n : Int) (h : n < Cal.ys f 1 ∨ Cal.ys f 2001 ≤ n) (w : World) :
    Calls Tryz.prog 92 #[.int .i64 (rk f), .int .i64 n] w fun e w' => e = .returned (.tuple #[.agg #[.int .i64 0, .int .i64 0, .int .i64 0], .int .i64 2]) ∧ Below w.heap.size w w' := by
  have b1 := Cal.ys_bd f 1 (by omega) (by omega)
  have b2 := Cal.ys_bd f 2001 (by omega) (by omega)
  have b3 := Cal.ys_mono f 1 2001 (by omega)
  by_cases hl : n < Cal.ys f 1
  · clear h
    go_enter Tryz.func92, Tryz.ntmps92
    go_wp2_with (go_at_call 115; refine (impl_ys f _ (by omega) (by omega) _).mono ?_; rintro e w' ⟨rfl, rfl⟩)
    exact bodyPost_ret (v := .tuple #[.agg #[.int .i64 0, .int .i64 0, .int .i64 0], .int .i64 2]) (by simp [results, Tryz.results92, go_sem]) rfl ⟨rfl, (Below.refl _ _).alloc (Nat.le_refl _) _⟩
  · have h' : Cal.ys f 2001 ≤ n := by omega
    clear h
    go_enter Tryz.func92, Tryz.ntmps92
    go_wp2_with (go_at_call 115; refine (impl_ys f _ (by omega) (by omega) _).mono ?_; rintro e w' ⟨rfl, rfl⟩)
    exact bodyPost_ret (v := .tuple #[.agg #[.int .i64 0, .int .i64 0, .int .i64 0], .int .i64 2]) (by simp [results, Tryz.results92, go_sem]) rfl ⟨rfl, (Below.refl _ _).alloc (Nat.le_refl _) _⟩

/-- What a call that finds a date leaves: the one date with the number n, nothing that was there changed. -/
def SomeDate (f : Bool) (n : Int) (w : World) (e : Ending) (w' : World) : Prop :=
  ∃ y m d : Int, e = .returned (.tuple #[.agg #[.int .i64 y, .int .i64 m, .int .i64 d], .int .i64 0]) ∧ Cal.valid f y m d ∧ Cal.num f y m d = n ∧ Below w.heap.size w w'

/-- The state of the loop over the months: the year is right, the days of the months before have been taken off. -/
def DateLoop (f : Bool) (n : Int) (w : World) (g : Nat) (wr : World) : Prop :=
  ∃ y m : Int, 1 ≤ y ∧ y ≤ 2000 ∧ 1 ≤ m ∧ m ≤ 12 ∧ g = (12 - m).toNat ∧ Cal.ys f y ≤ n ∧ n < Cal.ys f (y + 1) ∧ 1 ≤ n - Cal.ys f y - Cal.cum f y m + 1 ∧
    Blk wr w.heap.size 113 #[.int .i64 0, .int .i64 0, .int .i64 0] ∧
    Blk wr (w.heap.size + 1) 113 #[.int .i64 y, .int .i64 m, .int .i64 (n - Cal.ys f y - Cal.cum f y m + 1)] ∧ Below w.heap.size w wr

set_option maxHeartbeats 1000000 in
set_option maxRecDepth 10000 in
theorem impl_date (f : Bool) (n : Int) (h1 : Cal.ys f 1 ≤ n) (h2 : n < Cal.ys f 2001) (w : World) :
    Calls Tryz.prog 92 #[.int .i64 (rk f), .int .i64 n] w (SomeDate f n w) := by
  have b1 := Cal.ys_bd f 1 (by omega) (by omega)
  have b2 := Cal.ys_bd f 2001 (by omega) (by omega)
  have g1 := Cal.guess_lo f n h1
  have g2 := Cal.guess_hi f n h1 h2
  have g3 := Cal.guess_bd f n h1 h2
  have g4 := Cal.ys_bd f (1 + (n - Cal.ys f 1) * 4 / 1461) (by omega) (by omega)
  have g5 := Cal.ys_bd f (1 + (n - Cal.ys f 1) * 4 / 1461 + 1) (by omega) (by omega)
  by_cases hg : Cal.ys f (1 + (n - Cal.ys f 1) * 4 / 1461 + 1) ≤ n
  all_goals
    go_enter Tryz.func92, Tryz.ntmps92
    go_wp2_with (go_at_call 115; refine (impl_ys f _ (by omega) (by omega) _).mono ?_; rintro e w' ⟨rfl, rfl⟩)
    go_loopg [] 11 (fun g wr => DateLoop f n w g wr)
    case atStart =>
      by_cases hg' : Cal.ys f (1 + (n - Cal.ys f 1) * 4 / 1461 + 1) ≤ n
      · have y20 : 1 + (n - Cal.ys f 1) * 4 / 1461 + 1 ≤ 2000 := by
          apply Classical.byContradiction
          intro h'
          have := Cal.ys_mono f 2001 (1 + (n - Cal.ys f 1) * 4 / 1461 + 1) (by omega)
          omega
        have g2' : n < Cal.ys f (1 + (n - Cal.ys f 1) * 4 / 1461 + 1 + 1) := by rw [show 1 + (n - Cal.ys f 1) * 4 / 1461 + 1 + 1 = 1 + (n - Cal.ys f 1) * 4 / 1461 + 2 by omega]; exact g2
        first
          | (exfalso; omega)
          | exact ⟨1 + (n - Cal.ys f 1) * 4 / 1461 + 1, 1, by omega, by omega, by omega, by omega, rfl, hg', g2', by rw [Cal.cum_one]; omega, (Blk.new _ _ _).alloc _, by simpa [Cal.cum_one] using Blk.new (w.alloc _) _ _, ((Below.refl _ _).alloc (Nat.le_refl _) _).alloc (by simp) _⟩
      · first
          | (exfalso; omega)
          | exact ⟨1 + (n - Cal.ys f 1) * 4 / 1461, 1, by omega, by omega, by omega, by omega, rfl, g1, by omega, by rw [Cal.cum_one]; omega, (Blk.new _ _ _).alloc _, by simpa [Cal.cum_one] using Blk.new (w.alloc _) _ _, ((Below.refl _ _).alloc (Nat.le_refl _) _).alloc (by simp) _⟩
    case round =>
      obtain ⟨Y, m, y1, y2, m1, m2, hg, hlo, hhi, hd, k0, k1, hbel⟩ := hrel
      subst hg
      have c0 := k1.cell 0
      have c1 := k1.cell 1
      have c2 := k1.cell 2
      have z0 := k1.frozen 1
      have z1 := k1.frozen 2
      simp at c0 c1 c2
      have ml := Cal.mlen_bd f Y m
      have yb := Cal.ys_bd f Y (by omega) (by omega)
      have cb := Cal.cum_bd f Y m (by omega) (by omega)
      have cs := Lib.hid (Cal.cum_succ f Y m m1)
      have m12 : Cal.mlen f Y m < n - Cal.ys f Y - Cal.cum f Y m + 1 → m < 12 := by
        intro h
        apply Classical.byContradiction
        intro h'
        have e12 : m = 12 := by omega
        subst e12
        have a1 := Cal.cum_succ f Y 12 (by omega)
        have a2 := Cal.cum_13 f Y
        have a3 := Cal.ys_succ f Y
        rw [show (12 : Int) + 1 = 13 from rfl] at a1
        omega
      by_cases hlt : Cal.mlen f Y m < n - Cal.ys f Y - Cal.cum f Y m + 1
      · have m12' := m12 hlt
        clear m12
        go_wp2_with fail
        go_quiet ((go_at_call 116; exact Calls.quiet_of_same ((impl_mlen f Y m (by omega) _).mono fun _ _ ⟨a, b⟩ => ⟨a, b.symm⟩)))
        go_wp2_with fail
        refine wp_region_still_tail 10 (by kernel_rfl) (by kernel_rfl) ?_
        change wpStill _ _ ((wr.drewN nq).drew) (fun a => wpList _ _ _ _ a ((wr.drewN nq).drew)) _ _
        have q0 : Blk ((wr.drewN nq).drew) w.heap.size _ _ := (k0.drewN nq).drew
        have q1 : Blk ((wr.drewN nq).drew) (w.heap.size + 1) _ _ := (k1.drewN nq).drew
        have q2 : Below w.heap.size w ((wr.drewN nq).drew) := (below_drewN hbel nq).drew
        generalize (wr.drewN nq).drew = w2 at q0 q1 q2 ⊢
        clear k0 k1 hbel c0 c1 c2 z0 z1
        have c0 := q1.cell 0
        have c1 := q1.cell 1
        have c2 := q1.cell 2
        have z0 := q1.frozen 1
        have z1 := q1.frozen 2
        simp at c0 c1 c2
        simp only [List.take_succ_cons, List.take_zero, List.drop_succ_cons, List.drop_zero]
        iterate 7 still_step
        still_call ((impl_mlen f Y m (by omega) _).mono fun _ _ ⟨a, b⟩ => ⟨a, b.symm⟩)
        iterate 2 still_step
        refine wpStill_nil ?_
        go_wp2_with fail
        go_roundg (12 - (m + 1)).toNat
        case measure => omega
        case rel =>
          refine ⟨Y, m + 1, y1, y2, by omega, by omega, rfl, hlo, hhi, by rw [cs.out]; omega, ?_, ?_, ?_⟩
          · exact (q0.far (by simp) _).far (by simp) _
          · rw [show n - Cal.ys f Y - Cal.cum f Y (m + 1) + 1 = n - Cal.ys f Y - Cal.cum f Y m + 1 - Cal.mlen f Y m by rw [cs.out]; omega]
            simpa using (q1.set_ 2 _).set_ 1 _
          · exact (q2.setCell (by simp) _).setCell (by simp) _
      · clear m12
        go_wp2_with fail
        go_quiet ((go_at_call 116; exact Calls.quiet_of_same ((impl_mlen f Y m (by omega) _).mono fun _ _ ⟨a, b⟩ => ⟨a, b.symm⟩)))
        have e0 := k0.cell 0
        have e1 := k0.cell 1
        have e2 := k0.cell 2
        have x0 := k0.frozen 0
        have x1 := k0.frozen 1
        have x2 := k0.frozen 2
        simp at e0 e1 e2
        go_wp2_with fail
        refine bodyPost_ret (v := .tuple #[.agg #[.int .i64 Y, .int .i64 m, .int .i64 (n - Cal.ys f Y - Cal.cum f Y m + 1)], .int .i64 0]) (by simp [results, Tryz.results92, go_sem, e0, e1, e2]) rfl ⟨Y, m, _, rfl, ⟨y1, y2, m1, m2, hd, hlt⟩, by unfold Cal.num; omega, ?_⟩
        exact (((below_drewN hbel nq).setCell (Nat.le_refl _) _).setCell (Nat.le_refl _) _).setCell (Nat.le_refl _) _

end Go.Proofs.YtfhcakpmlppbkaaGreatDoor
