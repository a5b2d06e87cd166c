/- Contracts of spec's draws for the laws on calendars of places. -/
import Derived.Test.YtkmkfpglnmpnmaaPlcH
import Derived.Test.YtkmkfpglnmpnmaaSt
namespace Go.Proofs.Ytkmkfpglnmpnmaa.Plc
open Go.RowKit

def DrawnC (w : World) (e : Ending) (w' : World) : Prop := ∃ R : Int, e = .returned (.agg #[.int .i64 R]) ∧ Below w.heap.size w w'
def DrawnCD (w : World) (e : Ending) (w' : World) : Prop := ∃ R y m d : Int, e = .returned (.tuple #[.agg #[.int .i64 R], .agg #[.int .i64 y, .int .i64 m, .int .i64 d]]) ∧ Below w.heap.size w w'
def DrawnCN (w : World) (e : Ending) (w' : World) : Prop := ∃ R n : Int, e = .returned (.tuple #[.agg #[.int .i64 R], .int .i64 n]) ∧ Below w.heap.size w w'

set_option maxHeartbeats 1000000 in
theorem spec_DrawLocalDay (A : Option Addr) (len cap : Nat) (zs : List Int) (W w : World) (hrow : IsRow .u8 W A len cap zs) (hW : Below W.heap.size W w) :
    Calls Try.prog 38 #[.slice A len cap] w (DrawnCD w) := by
  go_enter Try.func38, Try.ntmps38
  have S := ((St.start w).alloc 35 #[.int .i64 0]).alloc 25 #[.int .i64 0, .int .i64 0, .int .i64 0]
  simp only [World.size_alloc] at S
  go_wp2_with fail
  refine (spec_from A len cap zs W _ hrow ((hW.alloc hW.size _).alloc (by have := hW.size; simp; omega) _)).mono ?_
  rintro e w1 ⟨g, rfl, hg, s1, b1⟩
  have S := S.call b1
  have hz : w.heap.size + 2 ≤ g := by simpa using hg
  have hWw : W.heap.size ≤ w1.heap.size := Nat.le_trans hW.size S.bel.size
  go_wp2_with fail
  refine (spec_drawCD A len cap zs W _ g s1 hWw).mono ?_
  rintro e w2 ⟨R, y, m, d, rfl, hR, s2, k2⟩
  have q2 := S.b1.grown k2 (fun e => by injection e; omega)
  have p2 := S.b0.grown k2 (fun e => by injection e; omega)
  have bel := S.bel.trans (only_below k2 (show w.heap.size ≤ g by omega) S.bel.size)
  have c0 : w2.cell? ⟨w.heap.size, 0, none⟩ = some (.int .i64 0) := q2.cell 0
  obtain ⟨d0, d1, d2⟩ := p2.three
  have f0 := q2.frozen 0
  have f1 := p2.frozen 0
  have f2 := p2.frozen 1
  have f3 := p2.frozen 2
  go_wp2_with fail
  refine bodyPost_ret (v := .tuple #[.agg #[.int .i64 R], .agg #[.int .i64 y, .int .i64 m, .int .i64 d]]) (by simp [results, Try.results38, go_sem, c0, d0, d1, d2]) rfl ⟨R, y, m, d, rfl, ?_⟩
  exact (((bel.setCell (Nat.le_refl _) _).setCell (by simp) _).setCell (by simp) _).setCell (by simp) _

set_option maxHeartbeats 1000000 in
theorem spec_DrawSkippedDates (A : Option Addr) (len cap : Nat) (zs : List Int) (W w : World) (hrow : IsRow .u8 W A len cap zs) (hW : Below W.heap.size W w) :
    Calls Try.prog 45 #[.slice A len cap] w (DrawnC w) := by
  go_enter Try.func45, Try.ntmps45
  have S := (St.start w).alloc 35 #[.int .i64 0]
  go_wp2_with fail
  refine (spec_from A len cap zs W _ hrow (hW.alloc hW.size _)).mono ?_
  rintro e w1 ⟨g, rfl, hg, s1, b1⟩
  have S := S.call b1
  have hz : w.heap.size + 1 ≤ g := by simpa using hg
  have hWw : W.heap.size ≤ w1.heap.size := Nat.le_trans hW.size S.bel.size
  go_wp2_with fail
  refine (spec_l03Draw A len cap zs W _ g s1 hWw).mono ?_
  rintro e w2 ⟨R, rfl, hR, s2, k2⟩
  have q2 := S.b0.grown k2 (fun e => by injection e; omega)
  have bel := S.bel.trans (only_below k2 (show w.heap.size ≤ g by omega) S.bel.size)
  have c0 : w2.cell? ⟨w.heap.size, 0, none⟩ = some (.int .i64 0) := q2.cell 0
  have f0 := q2.frozen 0
  go_wp2_with fail
  refine bodyPost_ret (v := .agg #[.int .i64 R]) (by simp [results, Try.results45, go_sem, c0]) rfl ⟨R, rfl, ?_⟩
  exact bel.setCell (Nat.le_refl _) _

theorem only_below' {a w : World} {g : Nat} (h : a.grownBy w (some g)) (hg : a.heap.size + 1 ≤ g) : Below a.heap.size a w := only_below h (by omega) (Nat.le_refl _)

set_option maxHeartbeats 2000000 in
theorem spec_DrawLocalDate (A : Option Addr) (len cap : Nat) (zs : List Int) (W w : World) (hrow : IsRow .u8 W A len cap zs) (hW : Below W.heap.size W w) :
    Calls Try.prog 35 #[.slice A len cap] w (DrawnCN w) := by
  go_enter Try.func35, Try.ntmps35
  have S := (St.start w).alloc 35 #[.int .i64 0]
  go_wp2_with fail
  refine (spec_from A len cap zs W _ hrow (hW.alloc hW.size _)).mono ?_
  rintro e w1 ⟨g, rfl, hg, s1, b1⟩
  have S := S.call b1
  have hgw : w.heap.size + 1 ≤ g := by simpa using hg
  have hWs := hW.size
  have hWw : W.heap.size ≤ w1.heap.size := Nat.le_trans hW.size S.bel.size
  have g1 : w.grownBy w1 (some g) := only_of_below S.bel _
  go_wp2_with fail
  refine (spec_l03Draw A len cap zs W _ g s1 hWw).mono ?_
  rintro e w2 ⟨R, rfl, hR, s2, k2⟩
  have q2 := (S.b0.grown k2 (fun e => by injection e; omega)).alloc (.cells #[.int .i64 R] 35)
  have D2 : Dr A len cap zs W w g w2.heap.size R (w2.alloc (.cells #[.int .i64 R] 35)) := ⟨Blk.new _ _ _, s2.alloc _, only_alloc (g1.trans k2) _⟩
  have hz : w.heap.size + 1 ≤ w2.heap.size := Nat.le_trans (show w.heap.size + 1 ≤ w1.heap.size from S.b0.lt) k2.size
  have hCg : w2.heap.size ≠ g := by have := s2.lt; omega
  clear s1 b1 s2 k2 g1 S
  go_wp2_with fail
  generalize w2.heap.size = C at hz D2 hCg ⊢
  refine (spec_next A len cap zs W _ g 2 D2.2.1).mono ?_
  rintro e w3 ⟨x, rfl, x0, x1, s3, k3⟩
  have D3 := D2.call s3 k3 hCg
  have q3 := q2.grown k3 (fun e => by injection e; omega)
  clear D2 q2 s3 k3 x1
  have c0 := D3.cell
  by_cases h0 : x = 0
  · subst h0
    go_wp2_with fail
    go_region_held3 (fun w' => w'.cell? ⟨C, 0, none⟩ = some (.int .i64 R) ∧ Dr A len cap zs W w g C R w')
      (first | with_reducible exact D3.drew.both | with_reducible exact DQ.both | with_reducible exact (DQ.set (by omega) (by omega) (by omega) (Nat.le_refl _) 0 _).both)
      (first | (go_at_call_of 84 (Value.int .i64 40); refine (spec_next A len cap zs W _ g 40 D3.drew.2.1).mono ?_; rintro e wq ⟨a, rfl, a0, a1, sq, kq⟩; have a2 : a < 40 := (by omega); have W1 : IntKind.i64.wrap (R + a) = R + a := IntWalk.i64_in _ ⟨by omega, by omega⟩; have W2 : IntKind.i64.wrap (R + a - 20) = R + a - 20 := IntWalk.i64_in _ ⟨by omega, by omega⟩; clear a1; have DQ := D3.drew.call sq kq hCg; have q4 := q3.drew.grown kq (fun e => by injection e; omega); have f0 := q4.frozen 0; have z0 : wq.cell? ⟨w.heap.size, 0, none⟩ = some (.int .i64 0) := q4.cell 0))
    go_wp2_with fail
    have DF := DQ.set (b := w.heap.size) (by omega) (by omega) (by omega) (Nat.le_refl _) 0 (.int .i64 R)
    refine bodyPost_ret (v := .tuple #[.agg #[.int .i64 R], .int .i64 (R + a - 20)]) (by simp [results, Try.results35, go_sem, z0]) rfl ⟨R, _, rfl, only_below' DF.2.2 hgw⟩
  · have e0 : (x == 0) = false := by simpa using h0
    clear h0
    go_wp2_with fail
    go_region_held3 (fun w' => w'.cell? ⟨C, 0, none⟩ = some (.int .i64 R) ∧ Dr A len cap zs W w g C R w')
      (first | with_reducible exact D3.drew.both | with_reducible exact DQ.both | with_reducible exact (DQ.set (by omega) (by omega) (by omega) (Nat.le_refl _) 0 _).both)
      (first | (go_at_call 76; refine (spec_drawDay A len cap zs W _ g D3.drew.2.1).mono ?_; rintro e wq ⟨a, rfl, ha, sq, kq⟩; clear ha; have DQ := D3.drew.call sq kq hCg; have q4 := q3.drew.grown kq (fun e => by injection e; omega); have f0 := q4.frozen 0; have z0 : wq.cell? ⟨w.heap.size, 0, none⟩ = some (.int .i64 0) := q4.cell 0))
    go_wp2_with fail
    have DF := DQ.set (b := w.heap.size) (by omega) (by omega) (by omega) (Nat.le_refl _) 0 (.int .i64 R)
    refine bodyPost_ret (v := .tuple #[.agg #[.int .i64 R], .int .i64 (a)]) (by simp [results, Try.results35, go_sem, z0]) rfl ⟨R, _, rfl, only_below' DF.2.2 hgw⟩

set_option maxHeartbeats 2000000 in
theorem spec_DrawDaysOfYear (A : Option Addr) (len cap : Nat) (zs : List Int) (W w : World) (hrow : IsRow .u8 W A len cap zs) (hW : Below W.heap.size W w) :
    Calls Try.prog 48 #[.slice A len cap] w (DrawnCN w) := by
  go_enter Try.func48, Try.ntmps48
  have S := (St.start w).alloc 35 #[.int .i64 0]
  go_wp2_with fail
  refine (spec_from A len cap zs W _ hrow (hW.alloc hW.size _)).mono ?_
  rintro e w1 ⟨g, rfl, hg, s1, b1⟩
  have S := S.call b1
  have hgw : w.heap.size + 1 ≤ g := by simpa using hg
  have hWs := hW.size
  have hWw : W.heap.size ≤ w1.heap.size := Nat.le_trans hW.size S.bel.size
  have g1 : w.grownBy w1 (some g) := only_of_below S.bel _
  go_wp2_with fail
  refine (spec_l03Draw A len cap zs W _ g s1 hWw).mono ?_
  rintro e w2 ⟨R, rfl, hR, s2, k2⟩
  have q2 := (S.b0.grown k2 (fun e => by injection e; omega)).alloc (.cells #[.int .i64 R] 35)
  have D2 : Dr A len cap zs W w g w2.heap.size R (w2.alloc (.cells #[.int .i64 R] 35)) := ⟨Blk.new _ _ _, s2.alloc _, only_alloc (g1.trans k2) _⟩
  have hz : w.heap.size + 1 ≤ w2.heap.size := Nat.le_trans (show w.heap.size + 1 ≤ w1.heap.size from S.b0.lt) k2.size
  have hCg : w2.heap.size ≠ g := by have := s2.lt; omega
  clear s1 b1 s2 k2 g1 S
  go_wp2_with fail
  generalize w2.heap.size = C at hz D2 hCg ⊢
  refine (spec_next A len cap zs W _ g 2 D2.2.1).mono ?_
  rintro e w3 ⟨x, rfl, x0, x1, s3, k3⟩
  have D3 := D2.call s3 k3 hCg
  have q3 := q2.grown k3 (fun e => by injection e; omega)
  clear D2 q2 s3 k3 x1
  have c0 := D3.cell
  by_cases h0 : x = 0
  · subst h0
    go_wp2_with fail
    go_region_held3 (fun w' => w'.cell? ⟨C, 0, none⟩ = some (.int .i64 R) ∧ Dr A len cap zs W w g C R w')
      (first | with_reducible exact D3.drew.both | with_reducible exact DQ.both | with_reducible exact (DQ.set (by omega) (by omega) (by omega) (Nat.le_refl _) 0 _).both)
      (first | (go_at_call_of 84 (Value.int .i64 4); refine (spec_next A len cap zs W _ g 4 D3.drew.2.1).mono ?_; rintro e wq ⟨a, rfl, a0, a1, sq, kq⟩; have a2 : a < 4 := (by omega); have W0 : R.tdiv 366 = R / 366 := Int.tdiv_eq_ediv_of_nonneg (by omega); have W3 : IntKind.i64.wrap (R / 366) = R / 366 := IntWalk.i64_in _ ⟨by omega, by omega⟩; have W1 : IntKind.i64.wrap (R / 366 + 1) = R / 366 + 1 := IntWalk.i64_in _ ⟨by omega, by omega⟩; have W2 : IntKind.i64.wrap (R / 366 + 1 + a) = R / 366 + 1 + a := IntWalk.i64_in _ ⟨by omega, by omega⟩; clear a1; have DQ := D3.drew.call sq kq hCg; have q4 := q3.drew.grown kq (fun e => by injection e; omega); have f0 := q4.frozen 0; have z0 : wq.cell? ⟨w.heap.size, 0, none⟩ = some (.int .i64 0) := q4.cell 0))
    go_wp2_with fail
    have DF := DQ.set (b := w.heap.size) (by omega) (by omega) (by omega) (Nat.le_refl _) 0 (.int .i64 R)
    refine bodyPost_ret (v := .tuple #[.agg #[.int .i64 R], .int .i64 (R / 366 + 1 + a)]) (by simp [results, Try.results48, go_sem, z0]) rfl ⟨R, _, rfl, only_below' DF.2.2 hgw⟩
  · have e0 : (x == 0) = false := by simpa using h0
    clear h0
    go_wp2_with fail
    go_region_held3 (fun w' => w'.cell? ⟨C, 0, none⟩ = some (.int .i64 R) ∧ Dr A len cap zs W w g C R w')
      (first | with_reducible exact D3.drew.both | with_reducible exact DQ.both | with_reducible exact (DQ.set (by omega) (by omega) (by omega) (Nat.le_refl _) 0 _).both)
      (first | (go_at_call_of 84 (Value.int .i64 2002); refine (spec_next A len cap zs W _ g 2002 D3.drew.2.1).mono ?_; rintro e wq ⟨a, rfl, a0, a1, sq, kq⟩; have a2 : a < 2002 := (by omega);  clear a1; have DQ := D3.drew.call sq kq hCg; have q4 := q3.drew.grown kq (fun e => by injection e; omega); have f0 := q4.frozen 0; have z0 : wq.cell? ⟨w.heap.size, 0, none⟩ = some (.int .i64 0) := q4.cell 0))
    go_wp2_with fail
    have DF := DQ.set (b := w.heap.size) (by omega) (by omega) (by omega) (Nat.le_refl _) 0 (.int .i64 R)
    refine bodyPost_ret (v := .tuple #[.agg #[.int .i64 R], .int .i64 (a)]) (by simp [results, Try.results48, go_sem, z0]) rfl ⟨R, _, rfl, only_below' DF.2.2 hgw⟩

end Go.Proofs.Ytkmkfpglnmpnmaa.Plc
