/- Contracts of impl's SameDay. -/
import Derived.Test.YtkmkfpglnmpnmaaPlcL
import Derived.Test.YtkmkfpglnmpnmaaSt
import Derived.Deep.RegionHeld3
namespace Go.Proofs.Ytkmkfpglnmpnmaa.Plc
open Go.RowKit

def scv (C C' : Int) : Int := if C = 0 ∧ C' = 0 then 0 else 4
def sbv (C C' N N' : Int) : Bool := decide (C = 0 ∧ C' = 0 ∧ N = N')
theorem keep2 {L : List (Nat × TypeId × Array Value)} {w0 w w' : World} {g0 g1 : Nat} {R y m d : Int} (h : St L w0 w) (hb : Below w.heap.size w w')
    (m0 : (g0, 35, #[.int .i64 R]) ∈ L) (m1 : (g1, 25, #[.int .i64 y, .int .i64 m, .int .i64 d]) ∈ L) :
    w'.cell? ⟨g0, 0, none⟩ = some (.int .i64 R) ∧ w'.cell? ⟨g1, 0, none⟩ = some (.int .i64 y) ∧ w'.cell? ⟨g1, 1, none⟩ = some (.int .i64 m) ∧ w'.cell? ⟨g1, 2, none⟩ = some (.int .i64 d) ∧ St L w0 w' := by
  have h' := h.call hb
  have c := (h'.blk _ m0).cell 0
  obtain ⟨d0, d1, d2⟩ := (h'.blk _ m1).three
  exact ⟨by simpa using c, d0, d1, d2, h'⟩
theorem lOk_or (R y m d : Int) : lOk R y m d = 0 ∨ lOk R y m d = 4 := by unfold lOk; split <;> simp

set_option maxHeartbeats 1000000 in
theorem impl_SameDay_no0 (R y m d R' y' m' d' : Int) (hc : icB R = false) (w : World) :
    Calls Try.prog 52 #[.agg #[.int .i64 R], .agg #[.int .i64 y, .int .i64 m, .int .i64 d], .agg #[.int .i64 R'], .agg #[.int .i64 y', .int .i64 m', .int .i64 d']] w (IB false 1 w) := by
  have C1 := Lib.hid (impl_isCal R)
  rw [hc] at C1
  clear hc
  go_enter Try.func52, Try.ntmps52
  go_wp2_with fail
  refine (C1.out _).mono ?_
  rintro e w1 ⟨rfl, hb⟩
  have S := ((((St.start w).alloc 35 #[.int .i64 R]).alloc 25 #[.int .i64 y, .int .i64 m, .int .i64 d]).alloc 35 #[.int .i64 R']).alloc 25 #[.int .i64 y', .int .i64 m', .int .i64 d']
  simp only [World.size_alloc] at S
  have S := S.call hb
  go_wp2_with fail
  go_ret2
  exact ⟨rfl, S.bel⟩

set_option maxHeartbeats 1000000 in
theorem impl_SameDay_no1 (R y m d R' y' m' d' : Int) (hc : icB R = true) (hv : dB y m d = false) (w : World) :
    Calls Try.prog 52 #[.agg #[.int .i64 R], .agg #[.int .i64 y, .int .i64 m, .int .i64 d], .agg #[.int .i64 R'], .agg #[.int .i64 y', .int .i64 m', .int .i64 d']] w (IB false 1 w) := by
  have C1 := Lib.hid (impl_isCal R)
  rw [hc] at C1
  have C2 := Lib.hid (impl_isValid y m d)
  rw [hv] at C2
  clear hc hv
  go_enter Try.func52, Try.ntmps52
  go_wp2_with fail
  refine (C1.out _).mono ?_
  rintro e w1 ⟨rfl, hb⟩
  have S := ((((St.start w).alloc 35 #[.int .i64 R]).alloc 25 #[.int .i64 y, .int .i64 m, .int .i64 d]).alloc 35 #[.int .i64 R']).alloc 25 #[.int .i64 y', .int .i64 m', .int .i64 d']
  simp only [World.size_alloc] at S
  have S := S.call hb
  obtain ⟨d0, d1, d2⟩ := S.b2.three
  go_wp2_with fail
  refine (C2.out _).mono ?_
  rintro e w2 ⟨rfl, hb2⟩
  clear d0 d1 d2
  have S := S.call hb2
  go_wp2_with fail
  go_ret2
  exact ⟨rfl, S.bel⟩

set_option maxHeartbeats 1000000 in
theorem impl_SameDay_no2 (R y m d R' y' m' d' : Int) (hc : icB R = true) (hv : dB y m d = true) (hc' : icB R' = false) (w : World) :
    Calls Try.prog 52 #[.agg #[.int .i64 R], .agg #[.int .i64 y, .int .i64 m, .int .i64 d], .agg #[.int .i64 R'], .agg #[.int .i64 y', .int .i64 m', .int .i64 d']] w (IB false 1 w) := by
  have C1 := Lib.hid (impl_isCal R)
  rw [hc] at C1
  have C2 := Lib.hid (impl_isValid y m d)
  rw [hv] at C2
  have C3 := Lib.hid (impl_isCal R')
  rw [hc'] at C3
  clear hc hv hc'
  go_enter Try.func52, Try.ntmps52
  go_wp2_with fail
  refine (C1.out _).mono ?_
  rintro e w1 ⟨rfl, hb⟩
  have S := ((((St.start w).alloc 35 #[.int .i64 R]).alloc 25 #[.int .i64 y, .int .i64 m, .int .i64 d]).alloc 35 #[.int .i64 R']).alloc 25 #[.int .i64 y', .int .i64 m', .int .i64 d']
  simp only [World.size_alloc] at S
  have S := S.call hb
  obtain ⟨d0, d1, d2⟩ := S.b2.three
  go_wp2_with fail
  refine (C2.out _).mono ?_
  rintro e w2 ⟨rfl, hb2⟩
  clear d0 d1 d2
  have S := S.call hb2
  have e0 := S.b1.cell 0
  simp at e0
  go_wp2_with fail
  refine (C3.out _).mono ?_
  rintro e w3 ⟨rfl, hb3⟩
  clear e0
  have S := S.call hb3
  go_wp2_with fail
  go_ret2
  exact ⟨rfl, S.bel⟩

set_option maxHeartbeats 1000000 in
theorem impl_SameDay_no3 (R y m d R' y' m' d' : Int) (hc : icB R = true) (hv : dB y m d = true) (hc' : icB R' = true) (hv' : dB y' m' d' = false) (w : World) :
    Calls Try.prog 52 #[.agg #[.int .i64 R], .agg #[.int .i64 y, .int .i64 m, .int .i64 d], .agg #[.int .i64 R'], .agg #[.int .i64 y', .int .i64 m', .int .i64 d']] w (IB false 1 w) := by
  have C1 := Lib.hid (impl_isCal R)
  rw [hc] at C1
  have C2 := Lib.hid (impl_isValid y m d)
  rw [hv] at C2
  have C3 := Lib.hid (impl_isCal R')
  rw [hc'] at C3
  have C4 := Lib.hid (impl_isValid y' m' d')
  rw [hv'] at C4
  clear hc hv hc' hv'
  go_enter Try.func52, Try.ntmps52
  go_wp2_with fail
  refine (C1.out _).mono ?_
  rintro e w1 ⟨rfl, hb⟩
  have S := ((((St.start w).alloc 35 #[.int .i64 R]).alloc 25 #[.int .i64 y, .int .i64 m, .int .i64 d]).alloc 35 #[.int .i64 R']).alloc 25 #[.int .i64 y', .int .i64 m', .int .i64 d']
  simp only [World.size_alloc] at S
  have S := S.call hb
  obtain ⟨d0, d1, d2⟩ := S.b2.three
  go_wp2_with fail
  refine (C2.out _).mono ?_
  rintro e w2 ⟨rfl, hb2⟩
  clear d0 d1 d2
  have S := S.call hb2
  have e0 := S.b1.cell 0
  simp at e0
  go_wp2_with fail
  refine (C3.out _).mono ?_
  rintro e w3 ⟨rfl, hb3⟩
  clear e0
  have S := S.call hb3
  obtain ⟨f0, f1, f2⟩ := S.b0.three
  go_wp2_with fail
  refine (C4.out _).mono ?_
  rintro e w4 ⟨rfl, hb4⟩
  clear f0 f1 f2
  have S := S.call hb4
  go_wp2_with fail
  go_ret2
  exact ⟨rfl, S.bel⟩

end Go.Proofs.Ytkmkfpglnmpnmaa.Plc
