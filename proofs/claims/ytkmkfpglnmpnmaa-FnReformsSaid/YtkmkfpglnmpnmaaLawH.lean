/- The walk of the exact law on SameDay. -/
import Derived.Test.YtkmkfpglnmpnmaaLawA
import Derived.Test.YtkmkfpglnmpnmaaLawG
import Derived.Test.YtkmkfpglnmpnmaaPlcSx
import Derived.Deep.RegionHeld3
namespace Go.Proofs.Ytkmkfpglnmpnmaa.Plc
open Go.RowKit

theorem stNine {w w' : World} {R y m d R' y' m' d' : Int} {t0 t1 t2 t3 : TypeId} (h : St [(w.heap.size + 1 + 1 + 1, t3, #[.int .i64 y', .int .i64 m', .int .i64 d']), (w.heap.size + 1 + 1, t2, #[.int .i64 R']), (w.heap.size + 1, t1, #[.int .i64 y, .int .i64 m, .int .i64 d]), (w.heap.size, t0, #[.int .i64 R])] w w') :
    w'.cell? ⟨w.heap.size, 0, none⟩ = some (.int .i64 R) ∧ w'.cell? ⟨w.heap.size + 1, 0, none⟩ = some (.int .i64 y) ∧ w'.cell? ⟨w.heap.size + 1, 1, none⟩ = some (.int .i64 m) ∧ w'.cell? ⟨w.heap.size + 1, 2, none⟩ = some (.int .i64 d) ∧ w'.cell? ⟨w.heap.size + 1 + 1, 0, none⟩ = some (.int .i64 R') ∧ w'.cell? ⟨w.heap.size + 1 + 1 + 1, 0, none⟩ = some (.int .i64 y') ∧ w'.cell? ⟨w.heap.size + 1 + 1 + 1, 1, none⟩ = some (.int .i64 m') ∧ w'.cell? ⟨w.heap.size + 1 + 1 + 1, 2, none⟩ = some (.int .i64 d') ∧ St [(w.heap.size + 1 + 1 + 1, t3, #[.int .i64 y', .int .i64 m', .int .i64 d']), (w.heap.size + 1 + 1, t2, #[.int .i64 R']), (w.heap.size + 1, t1, #[.int .i64 y, .int .i64 m, .int .i64 d]), (w.heap.size, t0, #[.int .i64 R])] w w' := by
  obtain ⟨a0, a1, a2⟩ := h.b0.three
  obtain ⟨b0, b1, b2⟩ := h.b2.three
  exact ⟨h.b3.cell 0, b0, b1, b2, h.b1.cell 0, a0, a1, a2, h⟩

set_option maxHeartbeats 4000000 in
theorem walk_FnExactSameDay (R : Int) (_f0 : (Lit.int .i64 R).wf = true) (y m d : Int) (_f1 : (Lit.int .i64 y).wf = true) (_f2 : (Lit.int .i64 m).wf = true) (_f3 : (Lit.int .i64 d).wf = true) (R' : Int) (_f4 : (Lit.int .i64 R').wf = true) (y' m' d' : Int) (_f5 : (Lit.int .i64 y').wf = true) (_f6 : (Lit.int .i64 m').wf = true) (_f7 : (Lit.int .i64 d').wf = true) (w : World) :
    Calls Try.prog 20 #[.agg #[.int .i64 R], .agg #[.int .i64 y, .int .i64 m, .int .i64 d], .agg #[.int .i64 R'], .agg #[.int .i64 y', .int .i64 m', .int .i64 d']] w (Bl true w) := by
  have C1 := Lib.hid (spec_SameDay R y m d R' y' m' d')
  have C2 := Lib.hid (impl_SameDay R y m d R' y' m' d')
  generalize Loc.sB R y m d R' y' m' d' = N at C1 C2
  generalize Loc.sErr R y m d R' y' m' d' = C at C1 C2
  have T1 := Lib.hid (laws_toCal R)
  have T2 := Lib.hid (laws_toDate y m d)
  have T3 := Lib.hid (laws_toCal R')
  have T4 := Lib.hid (laws_toDate y' m' d')
  go_enter Try.func20, Try.ntmps20
  have S := ((((St.start w).alloc 59 #[.int .i64 R]).alloc 51 #[.int .i64 y, .int .i64 m, .int .i64 d]).alloc 59 #[.int .i64 R']).alloc 51 #[.int .i64 y', .int .i64 m', .int .i64 d']
  simp only [World.size_alloc] at S
  go_wp2_with fail
  go_region_held3 (fun w' => w'.cell? ⟨w.heap.size, 0, none⟩ = some (.int .i64 R) ∧ w'.cell? ⟨w.heap.size + 1, 0, none⟩ = some (.int .i64 y) ∧ w'.cell? ⟨w.heap.size + 1, 1, none⟩ = some (.int .i64 m) ∧ w'.cell? ⟨w.heap.size + 1, 2, none⟩ = some (.int .i64 d) ∧ w'.cell? ⟨w.heap.size + 1 + 1, 0, none⟩ = some (.int .i64 R') ∧ w'.cell? ⟨w.heap.size + 1 + 1 + 1, 0, none⟩ = some (.int .i64 y') ∧ w'.cell? ⟨w.heap.size + 1 + 1 + 1, 1, none⟩ = some (.int .i64 m') ∧ w'.cell? ⟨w.heap.size + 1 + 1 + 1, 2, none⟩ = some (.int .i64 d') ∧ St [(w.heap.size + 1 + 1 + 1, 51, #[.int .i64 y', .int .i64 m', .int .i64 d']), (w.heap.size + 1 + 1, 59, #[.int .i64 R']), (w.heap.size + 1, 51, #[.int .i64 y, .int .i64 m, .int .i64 d]), (w.heap.size, 59, #[.int .i64 R])] w w')
      (first | exact stNine (S.drewN 1) | (go_split_ands; exact stNine (St.call (by assumption) hbq)))
      (first
        | (go_at_call_of 65 (Value.agg #[.int .i64 R]); refine (T1.out _).mono ?_; rintro e wq ⟨rfl, hbq⟩)
        | (go_at_call_of 55 (Value.agg #[.int .i64 y, .int .i64 m, .int .i64 d]); refine (T2.out _).mono ?_; rintro e wq ⟨rfl, hbq⟩)
        | (go_at_call_of 65 (Value.agg #[.int .i64 R']); refine (T3.out _).mono ?_; rintro e wq ⟨rfl, hbq⟩)
        | (go_at_call_of 55 (Value.agg #[.int .i64 y', .int .i64 m', .int .i64 d']); refine (T4.out _).mono ?_; rintro e wq ⟨rfl, hbq⟩)
        | (go_at_call 53; refine (C1.out _).mono ?_; rintro e wq ⟨rfl, hbq⟩))
  all_goals
    have S2 : St [(w.heap.size + 1 + 1 + 1, 51, #[.int .i64 y', .int .i64 m', .int .i64 d']), (w.heap.size + 1 + 1, 59, #[.int .i64 R']), (w.heap.size + 1, 51, #[.int .i64 y, .int .i64 m, .int .i64 d]), (w.heap.size, 59, #[.int .i64 R])] w wq := by go_split_ands; assumption
    have S := S2
    clear S2
    go_wp2_with fail
    go_region_held3 (fun w' => w'.cell? ⟨w.heap.size, 0, none⟩ = some (.int .i64 R) ∧ w'.cell? ⟨w.heap.size + 1, 0, none⟩ = some (.int .i64 y) ∧ w'.cell? ⟨w.heap.size + 1, 1, none⟩ = some (.int .i64 m) ∧ w'.cell? ⟨w.heap.size + 1, 2, none⟩ = some (.int .i64 d) ∧ w'.cell? ⟨w.heap.size + 1 + 1, 0, none⟩ = some (.int .i64 R') ∧ w'.cell? ⟨w.heap.size + 1 + 1 + 1, 0, none⟩ = some (.int .i64 y') ∧ w'.cell? ⟨w.heap.size + 1 + 1 + 1, 1, none⟩ = some (.int .i64 m') ∧ w'.cell? ⟨w.heap.size + 1 + 1 + 1, 2, none⟩ = some (.int .i64 d') ∧ St [(w.heap.size + 1 + 1 + 1, 51, #[.int .i64 y', .int .i64 m', .int .i64 d']), (w.heap.size + 1 + 1, 59, #[.int .i64 R']), (w.heap.size + 1, 51, #[.int .i64 y, .int .i64 m, .int .i64 d]), (w.heap.size, 59, #[.int .i64 R])] w w')
        (first | exact stNine (S.drewN 1) | (go_split_ands; exact stNine (St.call (by assumption) hbq)))
        (first
          | (go_at_call_of 65 (Value.agg #[.int .i64 R]); refine (T1.out _).mono ?_; rintro e wq ⟨rfl, hbq⟩)
          | (go_at_call_of 55 (Value.agg #[.int .i64 y, .int .i64 m, .int .i64 d]); refine (T2.out _).mono ?_; rintro e wq ⟨rfl, hbq⟩)
          | (go_at_call_of 65 (Value.agg #[.int .i64 R']); refine (T3.out _).mono ?_; rintro e wq ⟨rfl, hbq⟩)
          | (go_at_call_of 55 (Value.agg #[.int .i64 y', .int .i64 m', .int .i64 d']); refine (T4.out _).mono ?_; rintro e wq ⟨rfl, hbq⟩)
          | (go_at_call 52; refine (C2.out _).mono ?_; rintro e wq ⟨rfl, hbq⟩))
    all_goals
      have S2 : St [(w.heap.size + 1 + 1 + 1, 51, #[.int .i64 y', .int .i64 m', .int .i64 d']), (w.heap.size + 1 + 1, 59, #[.int .i64 R']), (w.heap.size + 1, 51, #[.int .i64 y, .int .i64 m, .int .i64 d]), (w.heap.size, 59, #[.int .i64 R])] w wq := by go_split_ands; assumption
      have S := S2
      clear S2
      go_wp2_with fail
      go_ret
      exact ⟨rfl, S.bel⟩

end Go.Proofs.Ytkmkfpglnmpnmaa.Plc
