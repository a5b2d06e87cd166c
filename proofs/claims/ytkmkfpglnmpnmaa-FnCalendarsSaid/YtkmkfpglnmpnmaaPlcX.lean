/- Contracts of spec's LocalDay, IsLocal and SameDay. -/
import Derived.Test.YtkmkfpglnmpnmaaPlcV
namespace Go.Proofs.Ytkmkfpglnmpnmaa.Plc
open Go.RowKit

theorem lErr_or (R y m d : Int) : (Loc.lErr R y m d = 0 ∧ Loc.isCal R ∧ Loc.isD y m d) ∨ (Loc.lErr R y m d = 1 ∧ ¬ (Loc.isCal R ∧ Loc.isD y m d)) := by
  unfold Loc.lErr
  by_cases h : Loc.isCal R ∧ Loc.isD y m d
  · exact .inl ⟨if_pos h, h⟩
  · exact .inr ⟨if_neg h, h⟩

set_option maxHeartbeats 1000000 in
theorem spec_LocalDay (R y m d : Int) (w : World) : Calls Try.prog 40 #[.agg #[.int .i64 R], .agg #[.int .i64 y, .int .i64 m, .int .i64 d]] w (Two (Loc.dNum R y m d) (Loc.dErr R y m d) w) := by
  have C1 := Lib.hid (spec_code R y m d)
  have C2 := Lib.hid (spec_day_ R y m d)
  rcases lErr_or R y m d with ⟨hE, h1, h2⟩ | ⟨hE, h⟩
  · rw [hE] at C1
    have H : (Loc.isL R y m d ∧ Loc.lnum R y m d = Loc.dNum R y m d ∧ 0 = Loc.dErr R y m d) ∨ (¬ Loc.isL R y m d ∧ 0 = Loc.dNum R y m d ∧ 4 = Loc.dErr R y m d) := by
      unfold Loc.dNum Loc.dErr
      rw [if_pos ⟨h1, h2⟩, if_pos ⟨h1, h2⟩]
      by_cases hl : Loc.isL R y m d
      · exact .inl ⟨hl, rfl, (if_pos hl).symm⟩
      · refine .inr ⟨hl, ?_, (if_neg hl).symm⟩
        unfold Loc.lnum
        rw [if_neg (fun k => hl (.inl k)), if_neg (fun k => hl (.inr k))]
    clear hE h1 h2
    rcases H with ⟨hl, e1, e2⟩ | ⟨hl, e1, e2⟩
    · rw [decide_eq_true hl] at C2
      have HE := Lib.hid (And.intro e1 e2)
      clear hl e1 e2
      generalize Loc.lnum R y m d = N at C2 HE
      go_enter Try.func40, Try.ntmps40
      have S := ((St.start w).alloc 35 #[.int .i64 R]).alloc 25 #[.int .i64 y, .int .i64 m, .int .i64 d]
      simp only [World.size_alloc] at S
      go_wp2_with fail
      refine (C1.out _).mono ?_
      rintro e w1 ⟨rfl, hb1⟩
      have S := S.call hb1
      have c0 := S.b1.cell 0
      simp only [List.getElem?_toArray, List.getElem?_cons_zero] at c0
      obtain ⟨d0, d1, d2⟩ := S.b0.three
      go_wp2_with fail
      refine (C2.out _).mono ?_
      rintro e w2 ⟨rfl, hb2⟩
      have S := S.call hb2
      go_wp2_with fail
      go_ret2
      exact ⟨ret_ii HE.out.1 HE.out.2, S.bel⟩
    · rw [decide_eq_false hl] at C2
      have HE := Lib.hid (And.intro e1 e2)
      clear hl e1 e2
      generalize Loc.lnum R y m d = N at C2
      go_enter Try.func40, Try.ntmps40
      have S := ((St.start w).alloc 35 #[.int .i64 R]).alloc 25 #[.int .i64 y, .int .i64 m, .int .i64 d]
      simp only [World.size_alloc] at S
      go_wp2_with fail
      refine (C1.out _).mono ?_
      rintro e w1 ⟨rfl, hb1⟩
      have S := S.call hb1
      have c0 := S.b1.cell 0
      simp only [List.getElem?_toArray, List.getElem?_cons_zero] at c0
      obtain ⟨d0, d1, d2⟩ := S.b0.three
      go_wp2_with fail
      refine (C2.out _).mono ?_
      rintro e w2 ⟨rfl, hb2⟩
      have S := S.call hb2
      go_wp2_with fail
      go_ret2
      exact ⟨ret_ii HE.out.1 HE.out.2, S.bel⟩
  · rw [hE] at C1
    have HE := Lib.hid (show 0 = Loc.dNum R y m d ∧ 1 = Loc.dErr R y m d by
      unfold Loc.dNum Loc.dErr
      rw [if_neg h, if_neg h]
      exact ⟨rfl, rfl⟩)
    clear hE h C2
    go_enter Try.func40, Try.ntmps40
    have S := ((St.start w).alloc 35 #[.int .i64 R]).alloc 25 #[.int .i64 y, .int .i64 m, .int .i64 d]
    simp only [World.size_alloc] at S
    go_wp2_with fail
    refine (C1.out _).mono ?_
    rintro e w1 ⟨rfl, hb1⟩
    have S := S.call hb1
    go_wp2_with fail
    go_ret2
    exact ⟨ret_ii HE.out.1 HE.out.2, S.bel⟩

theorem ret_bi2 {a b : Bool} {c d : Int} (h : a = b) (h' : c = d) : Ending.returned (.tuple #[.bool a, .int .i64 c]) = .returned (.tuple #[.bool b, .int .i64 d]) := by rw [h, h']

set_option maxHeartbeats 1000000 in
theorem spec_IsLocal (R y m d : Int) (w : World) : Calls Try.prog 42 #[.agg #[.int .i64 R], .agg #[.int .i64 y, .int .i64 m, .int .i64 d]] w (IB (Loc.lB R y m d) (Loc.lErr R y m d) w) := by
  have C1 := Lib.hid (spec_code R y m d)
  have C2 := Lib.hid (spec_day_ R y m d)
  rcases lErr_or R y m d with ⟨hE, h1, h2⟩ | ⟨hE, h⟩
  · rw [hE] at C1
    rw [hE]
    have HE := Lib.hid (show decide (Loc.isL R y m d) = Loc.lB R y m d by
      unfold Loc.lB
      by_cases hl : Loc.isL R y m d <;> simp [hl, h1, h2])
    clear hE h1 h2
    generalize Loc.lnum R y m d = N at C2
    generalize decide (Loc.isL R y m d) = b at C2 HE
    go_enter Try.func42, Try.ntmps42
    have S := ((St.start w).alloc 35 #[.int .i64 R]).alloc 25 #[.int .i64 y, .int .i64 m, .int .i64 d]
    simp only [World.size_alloc] at S
    go_wp2_with fail
    refine (C1.out _).mono ?_
    rintro e w1 ⟨rfl, hb1⟩
    have S := S.call hb1
    have c0 := S.b1.cell 0
    simp only [List.getElem?_toArray, List.getElem?_cons_zero] at c0
    obtain ⟨d0, d1, d2⟩ := S.b0.three
    go_wp2_with fail
    refine (C2.out _).mono ?_
    rintro e w2 ⟨rfl, hb2⟩
    have S := S.call hb2
    go_wp2_with fail
    go_ret2
    exact ⟨ret_bi2 HE.out rfl, S.bel⟩
  · rw [hE] at C1
    rw [hE]
    have HE := Lib.hid (show false = Loc.lB R y m d from (decide_eq_false (fun k => h ⟨k.1, k.2.1⟩)).symm)
    clear hE h C2
    go_enter Try.func42, Try.ntmps42
    have S := ((St.start w).alloc 35 #[.int .i64 R]).alloc 25 #[.int .i64 y, .int .i64 m, .int .i64 d]
    simp only [World.size_alloc] at S
    go_wp2_with fail
    refine (C1.out _).mono ?_
    rintro e w1 ⟨rfl, hb1⟩
    have S := S.call hb1
    go_wp2_with fail
    go_ret2
    exact ⟨ret_bi2 HE.out rfl, S.bel⟩

set_option maxHeartbeats 1000000 in
theorem spec_SameDay_n1 (R y m d R' y' m' d' : Int) (C1 : Hid (∀ w, Calls Try.prog 89 #[.agg #[.int .i64 R], .agg #[.int .i64 y, .int .i64 m, .int .i64 d]] w (Ic 1 w))) (w : World) :
    Calls Try.prog 53 #[.agg #[.int .i64 R], .agg #[.int .i64 y, .int .i64 m, .int .i64 d], .agg #[.int .i64 R'], .agg #[.int .i64 y', .int .i64 m', .int .i64 d']] w (IB false 1 w) := by
  go_enter Try.func53, Try.ntmps53
  have S := ((((St.start w).alloc 35 #[.int .i64 R]).alloc 25 #[.int .i64 y, .int .i64 m, .int .i64 d]).alloc 35 #[.int .i64 R']).alloc 25 #[.int .i64 y', .int .i64 m', .int .i64 d']
  simp only [World.size_alloc] at S
  go_wp2_with fail
  refine (C1.out _).mono ?_
  rintro e w1 ⟨rfl, hb1⟩
  have S := S.call hb1
  go_wp2_with fail
  go_ret2
  exact ⟨rfl, S.bel⟩

set_option maxHeartbeats 1000000 in
theorem spec_SameDay_n2 (R y m d R' y' m' d' : Int) (C1 : Hid (∀ w, Calls Try.prog 89 #[.agg #[.int .i64 R], .agg #[.int .i64 y, .int .i64 m, .int .i64 d]] w (Ic 0 w))) (C2 : Hid (∀ w, Calls Try.prog 89 #[.agg #[.int .i64 R'], .agg #[.int .i64 y', .int .i64 m', .int .i64 d']] w (Ic 1 w))) (w : World) :
    Calls Try.prog 53 #[.agg #[.int .i64 R], .agg #[.int .i64 y, .int .i64 m, .int .i64 d], .agg #[.int .i64 R'], .agg #[.int .i64 y', .int .i64 m', .int .i64 d']] w (IB false 1 w) := by
  go_enter Try.func53, Try.ntmps53
  have S := ((((St.start w).alloc 35 #[.int .i64 R]).alloc 25 #[.int .i64 y, .int .i64 m, .int .i64 d]).alloc 35 #[.int .i64 R']).alloc 25 #[.int .i64 y', .int .i64 m', .int .i64 d']
  simp only [World.size_alloc] at S
  go_wp2_with fail
  refine (C1.out _).mono ?_
  rintro e w1 ⟨rfl, hb1⟩
  have S := S.call hb1
  have c0 := S.b1.cell 0
  simp only [List.getElem?_toArray, List.getElem?_cons_zero] at c0
  obtain ⟨d0, d1, d2⟩ := S.b0.three
  go_wp2_with fail
  refine (C2.out _).mono ?_
  rintro e w2 ⟨rfl, hb2⟩
  have S := S.call hb2
  go_wp2_with fail
  go_ret2
  exact ⟨rfl, S.bel⟩

set_option maxHeartbeats 1000000 in
theorem spec_SameDay_n3 (R y m d R' y' m' d' : Int) (C1 : Hid (∀ w, Calls Try.prog 89 #[.agg #[.int .i64 R], .agg #[.int .i64 y, .int .i64 m, .int .i64 d]] w (Ic 0 w))) (C2 : Hid (∀ w, Calls Try.prog 89 #[.agg #[.int .i64 R'], .agg #[.int .i64 y', .int .i64 m', .int .i64 d']] w (Ic 0 w))) (N N' : Int) (b : Bool) (D1 : Hid (∀ w, Calls Try.prog 90 #[.agg #[.int .i64 R], .agg #[.int .i64 y, .int .i64 m, .int .i64 d]] w (NB N false w))) (D2 : Hid (∀ w, Calls Try.prog 90 #[.agg #[.int .i64 R'], .agg #[.int .i64 y', .int .i64 m', .int .i64 d']] w (NB N' b w))) (w : World) :
    Calls Try.prog 53 #[.agg #[.int .i64 R], .agg #[.int .i64 y, .int .i64 m, .int .i64 d], .agg #[.int .i64 R'], .agg #[.int .i64 y', .int .i64 m', .int .i64 d']] w (IB false 4 w) := by
  go_enter Try.func53, Try.ntmps53
  have S := ((((St.start w).alloc 35 #[.int .i64 R]).alloc 25 #[.int .i64 y, .int .i64 m, .int .i64 d]).alloc 35 #[.int .i64 R']).alloc 25 #[.int .i64 y', .int .i64 m', .int .i64 d']
  simp only [World.size_alloc] at S
  go_wp2_with fail
  refine (C1.out _).mono ?_
  rintro e w1 ⟨rfl, hb1⟩
  have S := S.call hb1
  have c0 := S.b1.cell 0
  simp only [List.getElem?_toArray, List.getElem?_cons_zero] at c0
  obtain ⟨d0, d1, d2⟩ := S.b0.three
  go_wp2_with fail
  refine (C2.out _).mono ?_
  rintro e w2 ⟨rfl, hb2⟩
  have S := S.call hb2
  clear c0 d0 d1 d2
  have c0 := S.b3.cell 0
  simp only [List.getElem?_toArray, List.getElem?_cons_zero] at c0
  obtain ⟨d0, d1, d2⟩ := S.b2.three
  go_wp2_with fail
  refine (D1.out _).mono ?_
  rintro e w3 ⟨rfl, hb3⟩
  have S := S.call hb3
  clear c0 d0 d1 d2
  have c0 := S.b1.cell 0
  simp only [List.getElem?_toArray, List.getElem?_cons_zero] at c0
  obtain ⟨d0, d1, d2⟩ := S.b0.three
  go_wp2_with fail
  refine (D2.out _).mono ?_
  rintro e w4 ⟨rfl, hb4⟩
  have S := S.call hb4
  clear c0 d0 d1 d2
  go_wp2_with fail
  go_ret2
  exact ⟨rfl, S.bel⟩

set_option maxHeartbeats 1000000 in
theorem spec_SameDay_n4 (R y m d R' y' m' d' : Int) (C1 : Hid (∀ w, Calls Try.prog 89 #[.agg #[.int .i64 R], .agg #[.int .i64 y, .int .i64 m, .int .i64 d]] w (Ic 0 w))) (C2 : Hid (∀ w, Calls Try.prog 89 #[.agg #[.int .i64 R'], .agg #[.int .i64 y', .int .i64 m', .int .i64 d']] w (Ic 0 w))) (N N' : Int) (D1 : Hid (∀ w, Calls Try.prog 90 #[.agg #[.int .i64 R], .agg #[.int .i64 y, .int .i64 m, .int .i64 d]] w (NB N true w))) (D2 : Hid (∀ w, Calls Try.prog 90 #[.agg #[.int .i64 R'], .agg #[.int .i64 y', .int .i64 m', .int .i64 d']] w (NB N' false w))) (w : World) :
    Calls Try.prog 53 #[.agg #[.int .i64 R], .agg #[.int .i64 y, .int .i64 m, .int .i64 d], .agg #[.int .i64 R'], .agg #[.int .i64 y', .int .i64 m', .int .i64 d']] w (IB false 4 w) := by
  go_enter Try.func53, Try.ntmps53
  have S := ((((St.start w).alloc 35 #[.int .i64 R]).alloc 25 #[.int .i64 y, .int .i64 m, .int .i64 d]).alloc 35 #[.int .i64 R']).alloc 25 #[.int .i64 y', .int .i64 m', .int .i64 d']
  simp only [World.size_alloc] at S
  go_wp2_with fail
  refine (C1.out _).mono ?_
  rintro e w1 ⟨rfl, hb1⟩
  have S := S.call hb1
  have c0 := S.b1.cell 0
  simp only [List.getElem?_toArray, List.getElem?_cons_zero] at c0
  obtain ⟨d0, d1, d2⟩ := S.b0.three
  go_wp2_with fail
  refine (C2.out _).mono ?_
  rintro e w2 ⟨rfl, hb2⟩
  have S := S.call hb2
  clear c0 d0 d1 d2
  have c0 := S.b3.cell 0
  simp only [List.getElem?_toArray, List.getElem?_cons_zero] at c0
  obtain ⟨d0, d1, d2⟩ := S.b2.three
  go_wp2_with fail
  refine (D1.out _).mono ?_
  rintro e w3 ⟨rfl, hb3⟩
  have S := S.call hb3
  clear c0 d0 d1 d2
  have c0 := S.b1.cell 0
  simp only [List.getElem?_toArray, List.getElem?_cons_zero] at c0
  obtain ⟨d0, d1, d2⟩ := S.b0.three
  go_wp2_with fail
  refine (D2.out _).mono ?_
  rintro e w4 ⟨rfl, hb4⟩
  have S := S.call hb4
  clear c0 d0 d1 d2
  go_wp2_with fail
  go_ret2
  exact ⟨rfl, S.bel⟩

set_option maxHeartbeats 1000000 in
theorem spec_SameDay_n5 (R y m d R' y' m' d' : Int) (C1 : Hid (∀ w, Calls Try.prog 89 #[.agg #[.int .i64 R], .agg #[.int .i64 y, .int .i64 m, .int .i64 d]] w (Ic 0 w))) (C2 : Hid (∀ w, Calls Try.prog 89 #[.agg #[.int .i64 R'], .agg #[.int .i64 y', .int .i64 m', .int .i64 d']] w (Ic 0 w))) (N N' : Int) (D1 : Hid (∀ w, Calls Try.prog 90 #[.agg #[.int .i64 R], .agg #[.int .i64 y, .int .i64 m, .int .i64 d]] w (NB N true w))) (D2 : Hid (∀ w, Calls Try.prog 90 #[.agg #[.int .i64 R'], .agg #[.int .i64 y', .int .i64 m', .int .i64 d']] w (NB N' true w))) (w : World) :
    Calls Try.prog 53 #[.agg #[.int .i64 R], .agg #[.int .i64 y, .int .i64 m, .int .i64 d], .agg #[.int .i64 R'], .agg #[.int .i64 y', .int .i64 m', .int .i64 d']] w (IB (N == N') 0 w) := by
  go_enter Try.func53, Try.ntmps53
  have S := ((((St.start w).alloc 35 #[.int .i64 R]).alloc 25 #[.int .i64 y, .int .i64 m, .int .i64 d]).alloc 35 #[.int .i64 R']).alloc 25 #[.int .i64 y', .int .i64 m', .int .i64 d']
  simp only [World.size_alloc] at S
  go_wp2_with fail
  refine (C1.out _).mono ?_
  rintro e w1 ⟨rfl, hb1⟩
  have S := S.call hb1
  have c0 := S.b1.cell 0
  simp only [List.getElem?_toArray, List.getElem?_cons_zero] at c0
  obtain ⟨d0, d1, d2⟩ := S.b0.three
  go_wp2_with fail
  refine (C2.out _).mono ?_
  rintro e w2 ⟨rfl, hb2⟩
  have S := S.call hb2
  clear c0 d0 d1 d2
  have c0 := S.b3.cell 0
  simp only [List.getElem?_toArray, List.getElem?_cons_zero] at c0
  obtain ⟨d0, d1, d2⟩ := S.b2.three
  go_wp2_with fail
  refine (D1.out _).mono ?_
  rintro e w3 ⟨rfl, hb3⟩
  have S := S.call hb3
  clear c0 d0 d1 d2
  have c0 := S.b1.cell 0
  simp only [List.getElem?_toArray, List.getElem?_cons_zero] at c0
  obtain ⟨d0, d1, d2⟩ := S.b0.three
  go_wp2_with fail
  refine (D2.out _).mono ?_
  rintro e w4 ⟨rfl, hb4⟩
  have S := S.call hb4
  clear c0 d0 d1 d2
  go_wp2_with fail
  go_ret2
  exact ⟨rfl, S.bel⟩

theorem spec_SameDay (R y m d R' y' m' d' : Int) (w : World) :
    Calls Try.prog 53 #[.agg #[.int .i64 R], .agg #[.int .i64 y, .int .i64 m, .int .i64 d], .agg #[.int .i64 R'], .agg #[.int .i64 y', .int .i64 m', .int .i64 d']] w (IB (Loc.sB R y m d R' y' m' d') (Loc.sErr R y m d R' y' m' d') w) := by
  have C1 := spec_code R y m d
  have C2 := spec_code R' y' m' d'
  have D1 := spec_day_ R y m d
  have D2 := spec_day_ R' y' m' d'
  have no : ∀ (_ : ¬ (Loc.isCal R ∧ Loc.isD y m d ∧ Loc.isCal R' ∧ Loc.isD y' m' d')) (e : Ending) (w' : World), IB false 1 w e w' → IB (Loc.sB R y m d R' y' m' d') (Loc.sErr R y m d R' y' m' d') w e w' := by
    intro h e w' k
    refine ib_eq k ?_ ?_
    · exact (decide_eq_false (fun k => h ⟨k.1, k.2.1, k.2.2.1, k.2.2.2.1⟩)).symm
    · unfold Loc.sErr
      rw [if_neg h]
  rcases lErr_or R y m d with ⟨hE, h1, h2⟩ | ⟨hE, h⟩
  · rcases lErr_or R' y' m' d' with ⟨hE', h3, h4⟩ | ⟨hE', h⟩
    · rw [hE] at C1
      rw [hE'] at C2
      have H : Loc.isCal R ∧ Loc.isD y m d ∧ Loc.isCal R' ∧ Loc.isD y' m' d' := ⟨h1, h2, h3, h4⟩
      by_cases a : Loc.isL R y m d
      · rw [decide_eq_true a] at D1
        by_cases b : Loc.isL R' y' m' d'
        · rw [decide_eq_true b] at D2
          refine (spec_SameDay_n5 R y m d R' y' m' d' (Lib.hid C1) (Lib.hid C2) _ _ (Lib.hid D1) (Lib.hid D2) w).mono fun e w' k => ib_eq k ?_ ?_
          · unfold Loc.sB
            simp [a, b, h1, h2, h3, h4]
            try rfl
          · unfold Loc.sErr
            rw [if_pos H, if_pos ⟨a, b⟩]
        · rw [decide_eq_false b] at D2
          refine (spec_SameDay_n4 R y m d R' y' m' d' (Lib.hid C1) (Lib.hid C2) _ _ (Lib.hid D1) (Lib.hid D2) w).mono fun e w' k => ib_eq k ?_ ?_
          · exact (decide_eq_false (fun k => b k.2.2.2.2.2.1)).symm
          · unfold Loc.sErr
            rw [if_pos H, if_neg (fun k => b k.2)]
      · rw [decide_eq_false a] at D1
        refine (spec_SameDay_n3 R y m d R' y' m' d' (Lib.hid C1) (Lib.hid C2) _ _ _ (Lib.hid D1) (Lib.hid D2) w).mono fun e w' k => ib_eq k ?_ ?_
        · exact (decide_eq_false (fun k => a k.2.2.2.2.1)).symm
        · unfold Loc.sErr
          rw [if_pos H, if_neg (fun k => a k.1)]
    · rw [hE] at C1
      rw [hE'] at C2
      exact (spec_SameDay_n2 R y m d R' y' m' d' (Lib.hid C1) (Lib.hid C2) w).mono (no fun k => h ⟨k.2.2.1, k.2.2.2⟩)
  · rw [hE] at C1
    exact (spec_SameDay_n1 R y m d R' y' m' d' (Lib.hid C1) w).mono (no fun k => h ⟨k.1, k.2.1⟩)

end Go.Proofs.Ytkmkfpglnmpnmaa.Plc
