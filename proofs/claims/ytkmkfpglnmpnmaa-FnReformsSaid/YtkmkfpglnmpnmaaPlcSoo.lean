/- Contracts of impl's SameDay. -/
import Derived.Test.YtkmkfpglnmpnmaaPlcS
import Derived.Test.YtkmkfpglnmpnmaaSt
import Derived.Deep.RegionHeld3
namespace Go.Proofs.Ytkmkfpglnmpnmaa.Plc
open Go.RowKit

set_option maxHeartbeats 4000000 in
theorem impl_SameDay_old_old (y m d y' m' d' : Int) (hc : icB 730500 = true) (hv : dB y m d = true) (hc' : icB 730500 = true) (hv' : dB y' m' d' = true) (w : World) :
    Calls Try.prog 52 #[.agg #[.int .i64 730500], .agg #[.int .i64 y, .int .i64 m, .int .i64 d], .agg #[.int .i64 730500], .agg #[.int .i64 y', .int .i64 m', .int .i64 d']] w (IB (sbv (lOk 730500 y m d) (lOk 730500 y' m' d') (Loc.lnum 730500 y m d) (Loc.lnum 730500 y' m' d')) (scv (lOk 730500 y m d) (lOk 730500 y' m' d')) w) := by
  have CL := Lib.hid (impl_local_old)
  have CN := Lib.hid (impl_old_number y m d hv)
  have DL := Lib.hid (impl_local_old)
  have DN := Lib.hid (impl_old_number y' m' d' hv')
  have K1 := Lib.hid (lOk_or 730500 y m d)
  have K2 := Lib.hid (lOk_or 730500 y' m' d')
  generalize Loc.lnum 730500 y m d = N at CN ⊢
  generalize lOk 730500 y m d = C at CN K1 ⊢
  generalize Loc.lnum 730500 y' m' d' = N' at DN ⊢
  generalize lOk 730500 y' m' d' = C' at DN K2 ⊢
  have C1 := Lib.hid (impl_isCal 730500)
  rw [hc] at C1
  have C2 := Lib.hid (impl_isValid y m d)
  rw [hv] at C2
  have C3 := Lib.hid (impl_isCal 730500)
  rw [hc'] at C3
  have C4 := Lib.hid (impl_isValid y' m' d')
  rw [hv'] at C4
  clear hc hv hc' hv'
  go_enter Try.func52, Try.ntmps52
  go_wp2_with fail
  refine (C1.out _).mono ?_
  rintro e w1 ⟨rfl, hb⟩
  have S := ((((St.start w).alloc 35 #[.int .i64 730500]).alloc 25 #[.int .i64 y, .int .i64 m, .int .i64 d]).alloc 35 #[.int .i64 730500]).alloc 25 #[.int .i64 y', .int .i64 m', .int .i64 d']
  simp only [World.size_alloc] at S
  have S := S.call hb
  obtain ⟨d0, d1, d2⟩ := S.b2.three
  go_wp2_with fail
  refine (C2.out _).mono ?_
  rintro e w2 ⟨rfl, hb2⟩
  clear d0 d1 d2
  have S := S.call hb2
  have e0 := S.b1.cell 0
  simp at e0
  go_wp2_with fail
  refine (C3.out _).mono ?_
  rintro e w3 ⟨rfl, hb3⟩
  clear e0
  have S := S.call hb3
  obtain ⟨f0, f1, f2⟩ := S.b0.three
  go_wp2_with fail
  refine (C4.out _).mono ?_
  rintro e w4 ⟨rfl, hb4⟩
  clear f0 f1 f2
  have S := S.call hb4
  clear hb hb2 hb3 hb4
  have c0 := S.b3.cell 0
  simp at c0
  obtain ⟨d0, d1, d2⟩ := S.b2.three
  go_wp2_with fail
  go_region_held3 (fun w' => w'.cell? ⟨w.heap.size, 0, none⟩ = some (.int .i64 730500) ∧ w'.cell? ⟨w.heap.size + 1, 0, none⟩ = some (.int .i64 y) ∧ w'.cell? ⟨w.heap.size + 1, 1, none⟩ = some (.int .i64 m) ∧ w'.cell? ⟨w.heap.size + 1, 2, none⟩ = some (.int .i64 d) ∧ St [(w.heap.size + 1 + 1 + 1, 25, #[.int .i64 y', .int .i64 m', .int .i64 d']), (w.heap.size + 1 + 1, 35, #[.int .i64 730500]), (w.heap.size + 1, 25, #[.int .i64 y, .int .i64 m, .int .i64 d]), (w.heap.size, 35, #[.int .i64 730500])] w w')
    (first | exact ⟨c0, d0, d1, d2, S.drewN 1⟩ | (go_split_ands; exact keep2 (by assumption) hbq (by simp) (by simp)))
    (first
      | (go_at_call 85; refine (CL.out _).mono ?_; rintro e wq ⟨rfl, hbq⟩)
      | (go_at_call 129; refine (CN.out _).mono ?_; rintro e wq ⟨rfl, hbq⟩))
  have S2 : St [(w.heap.size + 1 + 1 + 1, 25, #[.int .i64 y', .int .i64 m', .int .i64 d']), (w.heap.size + 1 + 1, 35, #[.int .i64 730500]), (w.heap.size + 1, 25, #[.int .i64 y, .int .i64 m, .int .i64 d]), (w.heap.size, 35, #[.int .i64 730500])] w wq := by go_split_ands; assumption
  have S := S2
  clear S2 c0 d0 d1 d2
  have e0 := S.b1.cell 0
  simp at e0
  obtain ⟨f0, f1, f2⟩ := S.b0.three
  go_wp2_with fail
  go_region_held3 (fun w' => w'.cell? ⟨w.heap.size + 1 + 1, 0, none⟩ = some (.int .i64 730500) ∧ w'.cell? ⟨w.heap.size + 1 + 1 + 1, 0, none⟩ = some (.int .i64 y') ∧ w'.cell? ⟨w.heap.size + 1 + 1 + 1, 1, none⟩ = some (.int .i64 m') ∧ w'.cell? ⟨w.heap.size + 1 + 1 + 1, 2, none⟩ = some (.int .i64 d') ∧ St [(w.heap.size + 1 + 1 + 1, 25, #[.int .i64 y', .int .i64 m', .int .i64 d']), (w.heap.size + 1 + 1, 35, #[.int .i64 730500]), (w.heap.size + 1, 25, #[.int .i64 y, .int .i64 m, .int .i64 d]), (w.heap.size, 35, #[.int .i64 730500])] w w')
    (first | exact ⟨e0, f0, f1, f2, S.drewN 1⟩ | (go_split_ands; exact keep2 (by assumption) hbq (by simp) (by simp)))
    (first
      | (go_at_call 85; refine (DL.out _).mono ?_; rintro e wq ⟨rfl, hbq⟩)
      | (go_at_call 129; refine (DN.out _).mono ?_; rintro e wq ⟨rfl, hbq⟩))
  have S2 : St [(w.heap.size + 1 + 1 + 1, 25, #[.int .i64 y', .int .i64 m', .int .i64 d']), (w.heap.size + 1 + 1, 35, #[.int .i64 730500]), (w.heap.size + 1, 25, #[.int .i64 y, .int .i64 m, .int .i64 d]), (w.heap.size, 35, #[.int .i64 730500])] w wq := by go_split_ands; assumption
  have bel := Lib.hid S2.bel
  clear e0 f0 f1 f2 S S2
  rcases K1.out with rfl | rfl
  · rcases K2.out with rfl | rfl
    · go_wp2_with fail
      go_ret2
      exact ⟨by simp [sbv, scv]; try rfl, bel.out⟩
    · go_wp2_with fail
      go_ret2
      exact ⟨by simp [sbv, scv], bel.out⟩
  · go_wp2_with fail
    go_ret2
    exact ⟨by simp [sbv, scv], bel.out⟩

end Go.Proofs.Ytkmkfpglnmpnmaa.Plc
