/- The walks of the exact laws on calendars of places. -/
import Derived.Test.YtkmkfpglnmpnmaaLawA
import Derived.Test.YtkmkfpglnmpnmaaPlcU
import Derived.Test.YtkmkfpglnmpnmaaPlcX
import Derived.Deep.RegionHeld3
namespace Go.Proofs.Ytkmkfpglnmpnmaa.Plc
open Go.RowKit

set_option maxHeartbeats 400000 in
theorem laws_toCal (R : Int) (w : World) :
    Calls Try.prog 65 #[.agg #[.int .i64 R]] w fun e w' => e = .returned (.agg #[.int .i64 R]) ∧ Below w.heap.size w w' := by
  go_enter Try.func65, Try.ntmps65
  go_wp2_with fail
  refine bodyPost_ret (v := .agg #[.int .i64 R]) (by simp [results, Try.results65, go_sem]) rfl ⟨rfl, ?_⟩
  exact ((((((Below.refl w.heap.size w).alloc (Nat.le_refl _) _).alloc (by simp) _).alloc (by simp; omega) _)))

theorem keepCD {L : List (Nat × TypeId × Array Value)} {w0 w w' : World} {g0 g1 : Nat} {t0 t1 : TypeId} {R y m d : Int} (h : St L w0 w) (hb : Below w.heap.size w w')
    (m0 : (g0, t0, #[.int .i64 R]) ∈ L) (m1 : (g1, t1, #[.int .i64 y, .int .i64 m, .int .i64 d]) ∈ L) :
    w'.cell? ⟨g0, 0, none⟩ = some (.int .i64 R) ∧ w'.cell? ⟨g1, 0, none⟩ = some (.int .i64 y) ∧ w'.cell? ⟨g1, 1, none⟩ = some (.int .i64 m) ∧ w'.cell? ⟨g1, 2, none⟩ = some (.int .i64 d) ∧ St L w0 w' := by
  have h' := h.call hb
  have c := (h'.blk _ m0).cell 0
  obtain ⟨d0, d1, d2⟩ := (h'.blk _ m1).three
  exact ⟨by simpa using c, d0, d1, d2, h'⟩

set_option maxHeartbeats 1000000 in
theorem walk_FnExactIsCalendar (R : Int) (_f0 : (Lit.int .i64 R).wf = true) (w : World) : Calls Try.prog 14 #[.agg #[.int .i64 R]] w (Bl true w) := by
  go_enter Try.func14, Try.ntmps14
  have S := (St.start w).alloc 59 #[.int .i64 R]
  go_wp2_with fail
  refine (laws_toCal R _).mono ?_
  rintro e w1 ⟨rfl, hb1⟩
  have S := S.call hb1
  go_wp2_with fail
  refine (spec_isCal R _).mono ?_
  rintro e w2 ⟨rfl, hb2⟩
  have S := S.call hb2
  have c0 := S.b0.cell 0
  simp only [List.getElem?_toArray, List.getElem?_cons_zero] at c0
  go_wp2_with fail
  refine (laws_toCal R _).mono ?_
  rintro e w3 ⟨rfl, hb3⟩
  have S := S.call hb3
  clear c0
  go_wp2_with fail
  refine (impl_isCal R _).mono ?_
  rintro e w4 ⟨rfl, hb4⟩
  have S := S.call hb4
  go_wp2_with fail
  go_ret
  exact ⟨rfl, S.bel⟩

set_option maxHeartbeats 1000000 in
theorem walk_FnExactSkippedDates (R : Int) (_f0 : (Lit.int .i64 R).wf = true) (w : World) : Calls Try.prog 18 #[.agg #[.int .i64 R]] w (Bl true w) := by
  go_enter Try.func18, Try.ntmps18
  have S := (St.start w).alloc 59 #[.int .i64 R]
  go_wp2_with fail
  refine (laws_toCal R _).mono ?_
  rintro e w1 ⟨rfl, hb1⟩
  have S := S.call hb1
  go_wp2_with fail
  refine (spec_SkippedDates R _).mono ?_
  rintro e w2 ⟨s, c, rfl, hs, hb2⟩
  have S := S.call hb2
  have c0 := S.b0.cell 0
  simp only [List.getElem?_toArray, List.getElem?_cons_zero] at c0
  go_wp2_with fail
  refine (laws_toCal R _).mono ?_
  rintro e w3 ⟨rfl, hb3⟩
  have S := S.call hb3
  clear c0
  go_wp2_with fail
  refine (impl_SkippedDates R _).mono ?_
  rintro e w4 ⟨s', c', rfl, hs', hb4⟩
  have S := S.call hb4
  obtain ⟨rfl, rfl⟩ := hs.uniq hs'
  clear hs hs'
  go_wp2_with fail
  go_ret
  exact ⟨rfl, S.bel⟩

set_option maxHeartbeats 1000000 in
theorem walk_FnExactDaysOfYear (R : Int) (_f0 : (Lit.int .i64 R).wf = true) (y : Int) (_f1 : (Lit.int .i64 y).wf = true) (w : World) : Calls Try.prog 19 #[.agg #[.int .i64 R], .int .i64 y] w (Bl true w) := by
  have C1 := Lib.hid (spec_DaysOfYear R y)
  have C2 := Lib.hid (impl_DaysOfYear R y)
  generalize Loc.yNum R y = N at C1 C2
  generalize Loc.yErr R y = C at C1 C2
  go_enter Try.func19, Try.ntmps19
  have S := (St.start w).alloc 59 #[.int .i64 R]
  go_wp2_with fail
  refine (laws_toCal R _).mono ?_
  rintro e w1 ⟨rfl, hb1⟩
  have S := S.call hb1
  go_wp2_with fail
  refine (C1.out _).mono ?_
  rintro e w2 ⟨rfl, hb2⟩
  have S := S.call hb2
  have c0 := S.b0.cell 0
  simp only [List.getElem?_toArray, List.getElem?_cons_zero] at c0
  go_wp2_with fail
  refine (laws_toCal R _).mono ?_
  rintro e w3 ⟨rfl, hb3⟩
  have S := S.call hb3
  clear c0
  go_wp2_with fail
  refine (C2.out _).mono ?_
  rintro e w4 ⟨rfl, hb4⟩
  have S := S.call hb4
  go_wp2_with fail
  go_ret
  exact ⟨rfl, S.bel⟩

set_option maxHeartbeats 1000000 in
theorem walk_FnExactLocalDate (R : Int) (_f0 : (Lit.int .i64 R).wf = true) (n : Int) (_f1 : (Lit.int .i64 n).wf = true) (w : World) : Calls Try.prog 16 #[.agg #[.int .i64 R], .int .i64 n] w (Bl true w) := by
  go_enter Try.func16, Try.ntmps16
  have S := (St.start w).alloc 59 #[.int .i64 R]
  go_wp2_with fail
  refine (laws_toCal R _).mono ?_
  rintro e w1 ⟨rfl, hb1⟩
  have S := S.call hb1
  go_wp2_with fail
  refine (spec_LocalDate R n _).mono ?_
  rintro e w2 ⟨y, m, d, c, rfl, hd, hb2⟩
  have S := S.call hb2
  have S := S.alloc 25 #[.int .i64 y, .int .i64 m, .int .i64 d]
  have c0 := S.b1.cell 0
  simp only [List.getElem?_toArray, List.getElem?_cons_zero] at c0
  go_wp2_with fail
  refine (laws_toCal R _).mono ?_
  rintro e w3 ⟨rfl, hb3⟩
  have S := S.call hb3
  clear c0
  go_wp2_with fail
  refine (impl_LocalDate R n _).mono ?_
  rintro e w4 ⟨y', m', d', c', rfl, hd', hb4⟩
  have S := S.call hb4
  obtain ⟨rfl, rfl, rfl, rfl⟩ := hd.uniq hd'
  clear hd hd'
  have S := S.alloc 25 #[.int .i64 y, .int .i64 m, .int .i64 d]
  obtain ⟨a0, a1, a2⟩ := S.b0.three
  obtain ⟨b0, b1, b2⟩ := S.b1.three
  have hz4 := hb4.size
  go_wp2_with fail
  refine (laws_eqDate y m d y m d _ rfl rfl rfl).mono ?_
  rintro e w5 ⟨rfl, hb5⟩
  have S := S.call hb5
  go_wp2_with fail
  go_ret
  exact ⟨rfl, S.bel⟩

set_option maxHeartbeats 2000000 in
theorem walk_FnExactLocalDay (R : Int) (_f0 : (Lit.int .i64 R).wf = true) (y m d : Int) (_f1 : (Lit.int .i64 y).wf = true) (_f2 : (Lit.int .i64 m).wf = true) (_f3 : (Lit.int .i64 d).wf = true) (w : World) : Calls Try.prog 15 #[.agg #[.int .i64 R], .agg #[.int .i64 y, .int .i64 m, .int .i64 d]] w (Bl true w) := by
  have C1 := Lib.hid (spec_LocalDay R y m d)
  have C2 := Lib.hid (impl_LocalDay R y m d)
  generalize Loc.dNum R y m d = N at C1 C2
  generalize Loc.dErr R y m d = C at C1 C2
  have T1 := Lib.hid (laws_toCal R)
  have T2 := Lib.hid (laws_toDate y m d)
  go_enter Try.func15, Try.ntmps15
  have S := ((St.start w).alloc 59 #[.int .i64 R]).alloc 51 #[.int .i64 y, .int .i64 m, .int .i64 d]
  simp only [World.size_alloc] at S
  obtain ⟨d0, d1, d2⟩ := S.b0.three
  have c0 := S.b1.cell 0
  simp only [List.getElem?_toArray, List.getElem?_cons_zero] at c0
  go_wp2_with fail
  go_region_held3 (fun w' => w'.cell? ⟨w.heap.size, 0, none⟩ = some (.int .i64 R) ∧ w'.cell? ⟨w.heap.size + 1, 0, none⟩ = some (.int .i64 y) ∧ w'.cell? ⟨w.heap.size + 1, 1, none⟩ = some (.int .i64 m) ∧ w'.cell? ⟨w.heap.size + 1, 2, none⟩ = some (.int .i64 d) ∧ St [(w.heap.size + 1, 51, #[.int .i64 y, .int .i64 m, .int .i64 d]), (w.heap.size, 59, #[.int .i64 R])] w w')
    (first | exact ⟨c0, d0, d1, d2, S.drewN 1⟩ | (go_split_ands; exact keepCD (t0 := 59) (t1 := 51) (by assumption) hbq (by simp) (by simp)))
    (first
      | (go_at_call 65; refine (T1.out _).mono ?_; rintro e wq ⟨rfl, hbq⟩)
      | (go_at_call 55; refine (T2.out _).mono ?_; rintro e wq ⟨rfl, hbq⟩)
      | (go_at_call 40; refine (C1.out _).mono ?_; rintro e wq ⟨rfl, hbq⟩))
  all_goals
    have S2 : St [(w.heap.size + 1, 51, #[.int .i64 y, .int .i64 m, .int .i64 d]), (w.heap.size, 59, #[.int .i64 R])] w wq := by go_split_ands; assumption
    have S := S2
    clear S2 c0 d0 d1 d2
    obtain ⟨d0, d1, d2⟩ := S.b0.three
    have c0 : wq.cell? ⟨w.heap.size, 0, none⟩ = some (.int .i64 R) := S.b1.cell 0
    go_wp2_with fail
    go_region_held3 (fun w' => w'.cell? ⟨w.heap.size, 0, none⟩ = some (.int .i64 R) ∧ w'.cell? ⟨w.heap.size + 1, 0, none⟩ = some (.int .i64 y) ∧ w'.cell? ⟨w.heap.size + 1, 1, none⟩ = some (.int .i64 m) ∧ w'.cell? ⟨w.heap.size + 1, 2, none⟩ = some (.int .i64 d) ∧ St [(w.heap.size + 1, 51, #[.int .i64 y, .int .i64 m, .int .i64 d]), (w.heap.size, 59, #[.int .i64 R])] w w')
      (first | exact ⟨c0, d0, d1, d2, S.drewN 1⟩ | (go_split_ands; exact keepCD (t0 := 59) (t1 := 51) (by assumption) hbq (by simp) (by simp)))
      (first
        | (go_at_call 65; refine (T1.out _).mono ?_; rintro e wq ⟨rfl, hbq⟩)
        | (go_at_call 55; refine (T2.out _).mono ?_; rintro e wq ⟨rfl, hbq⟩)
        | (go_at_call 39; refine (C2.out _).mono ?_; rintro e wq ⟨rfl, hbq⟩))
    all_goals
      have S2 : St [(w.heap.size + 1, 51, #[.int .i64 y, .int .i64 m, .int .i64 d]), (w.heap.size, 59, #[.int .i64 R])] w wq := by go_split_ands; assumption
      have S := S2
      clear S2 c0 d0 d1 d2
      obtain ⟨d0, d1, d2⟩ := S.b0.three
      have c0 : wq.cell? ⟨w.heap.size, 0, none⟩ = some (.int .i64 R) := S.b1.cell 0
      go_wp2_with fail
      go_ret
      exact ⟨rfl, S.bel⟩

set_option maxHeartbeats 2000000 in
theorem walk_FnExactIsLocal (R : Int) (_f0 : (Lit.int .i64 R).wf = true) (y m d : Int) (_f1 : (Lit.int .i64 y).wf = true) (_f2 : (Lit.int .i64 m).wf = true) (_f3 : (Lit.int .i64 d).wf = true) (w : World) : Calls Try.prog 17 #[.agg #[.int .i64 R], .agg #[.int .i64 y, .int .i64 m, .int .i64 d]] w (Bl true w) := by
  have C1 := Lib.hid (spec_IsLocal R y m d)
  have C2 := Lib.hid (impl_IsLocal R y m d)
  generalize Loc.lB R y m d = N at C1 C2
  generalize Loc.lErr R y m d = C at C1 C2
  have T1 := Lib.hid (laws_toCal R)
  have T2 := Lib.hid (laws_toDate y m d)
  go_enter Try.func17, Try.ntmps17
  have S := ((St.start w).alloc 59 #[.int .i64 R]).alloc 51 #[.int .i64 y, .int .i64 m, .int .i64 d]
  simp only [World.size_alloc] at S
  obtain ⟨d0, d1, d2⟩ := S.b0.three
  have c0 := S.b1.cell 0
  simp only [List.getElem?_toArray, List.getElem?_cons_zero] at c0
  go_wp2_with fail
  go_region_held3 (fun w' => w'.cell? ⟨w.heap.size, 0, none⟩ = some (.int .i64 R) ∧ w'.cell? ⟨w.heap.size + 1, 0, none⟩ = some (.int .i64 y) ∧ w'.cell? ⟨w.heap.size + 1, 1, none⟩ = some (.int .i64 m) ∧ w'.cell? ⟨w.heap.size + 1, 2, none⟩ = some (.int .i64 d) ∧ St [(w.heap.size + 1, 51, #[.int .i64 y, .int .i64 m, .int .i64 d]), (w.heap.size, 59, #[.int .i64 R])] w w')
    (first | exact ⟨c0, d0, d1, d2, S.drewN 1⟩ | (go_split_ands; exact keepCD (t0 := 59) (t1 := 51) (by assumption) hbq (by simp) (by simp)))
    (first
      | (go_at_call 65; refine (T1.out _).mono ?_; rintro e wq ⟨rfl, hbq⟩)
      | (go_at_call 55; refine (T2.out _).mono ?_; rintro e wq ⟨rfl, hbq⟩)
      | (go_at_call 42; refine (C1.out _).mono ?_; rintro e wq ⟨rfl, hbq⟩))
  all_goals
    have S2 : St [(w.heap.size + 1, 51, #[.int .i64 y, .int .i64 m, .int .i64 d]), (w.heap.size, 59, #[.int .i64 R])] w wq := by go_split_ands; assumption
    have S := S2
    clear S2 c0 d0 d1 d2
    obtain ⟨d0, d1, d2⟩ := S.b0.three
    have c0 : wq.cell? ⟨w.heap.size, 0, none⟩ = some (.int .i64 R) := S.b1.cell 0
    go_wp2_with fail
    go_region_held3 (fun w' => w'.cell? ⟨w.heap.size, 0, none⟩ = some (.int .i64 R) ∧ w'.cell? ⟨w.heap.size + 1, 0, none⟩ = some (.int .i64 y) ∧ w'.cell? ⟨w.heap.size + 1, 1, none⟩ = some (.int .i64 m) ∧ w'.cell? ⟨w.heap.size + 1, 2, none⟩ = some (.int .i64 d) ∧ St [(w.heap.size + 1, 51, #[.int .i64 y, .int .i64 m, .int .i64 d]), (w.heap.size, 59, #[.int .i64 R])] w w')
      (first | exact ⟨c0, d0, d1, d2, S.drewN 1⟩ | (go_split_ands; exact keepCD (t0 := 59) (t1 := 51) (by assumption) hbq (by simp) (by simp)))
      (first
        | (go_at_call 65; refine (T1.out _).mono ?_; rintro e wq ⟨rfl, hbq⟩)
        | (go_at_call 55; refine (T2.out _).mono ?_; rintro e wq ⟨rfl, hbq⟩)
        | (go_at_call 41; refine (C2.out _).mono ?_; rintro e wq ⟨rfl, hbq⟩))
    all_goals
      have S2 : St [(w.heap.size + 1, 51, #[.int .i64 y, .int .i64 m, .int .i64 d]), (w.heap.size, 59, #[.int .i64 R])] w wq := by go_split_ands; assumption
      have S := S2
      clear S2 c0 d0 d1 d2
      obtain ⟨d0, d1, d2⟩ := S.b0.three
      have c0 : wq.cell? ⟨w.heap.size, 0, none⟩ = some (.int .i64 R) := S.b1.cell 0
      go_wp2_with fail
      go_ret
      exact ⟨rfl, S.bel⟩

end Go.Proofs.Ytkmkfpglnmpnmaa.Plc
