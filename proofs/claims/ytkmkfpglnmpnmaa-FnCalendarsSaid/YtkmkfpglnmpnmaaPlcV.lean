/- Contracts of spec's IsCalendar, l03Code and l03Day. -/
import Derived.Test.YtkmkfpglnmpnmaaPlcS
import Derived.Deep.RegionHeld3
namespace Go.Proofs.Ytkmkfpglnmpnmaa.Plc
open Go.RowKit

set_option maxHeartbeats 400000 in
theorem spec_isCal (R : Int) (w : World) : Calls Try.prog 44 #[.agg #[.int .i64 R]] w (Bl (icB R) w) := by
  by_cases h1 : 200000 ≤ R ∧ R ≤ 730486
  · have e := Lib.hid (show icB R = true from decide_eq_true (Or.inl h1))
    have t := Lib.hid (inB_true h1)
    clear h1
    go_enter Try.func44, Try.ntmps44
    go_wp2_with fail
    refine (spec_in R 200000 730486 _).mono ?_
    rintro e w1 ⟨rfl, rfl⟩
    rw [t.out]
    go_wp2_with fail
    go_ret
    exact ⟨ret_bool e.out.symm, (Below.refl _ _).alloc (Nat.le_refl _) _⟩
  · have e := Lib.hid (show decide (R = 730500) = icB R by simp only [icB, Loc.isCal]; congr 1; apply propext; omega)
    have t := Lib.hid (inB_false h1)
    clear h1
    go_enter Try.func44, Try.ntmps44
    have S := (St.start w).alloc 35 #[.int .i64 R]
    go_wp2_with fail
    refine (spec_in R 200000 730486 _).mono ?_
    rintro e w1 ⟨rfl, rfl⟩
    rw [t.out]
    go_wp2_with fail
    go_ret
    exact ⟨ret_bool (by rw [← e.out]; rfl), (Below.refl _ _).alloc (Nat.le_refl _) _⟩

def Ic (a : Int) (w : World) (e : Ending) (w' : World) : Prop := e = .returned (.int .i64 a) ∧ Below w.heap.size w w'

set_option maxHeartbeats 1000000 in
theorem spec_code (R y m d : Int) (w : World) : Calls Try.prog 89 #[.agg #[.int .i64 R], .agg #[.int .i64 y, .int .i64 m, .int .i64 d]] w (Ic (Loc.lErr R y m d) w) := by
  have C1 := Lib.hid (spec_isCal R)
  have C2 := Lib.hid (spec_IsOldDate y m d)
  have C3 := Lib.hid (spec_IsNewDate y m d)
  rcases Bool.eq_false_or_eq_true (icB R) with hc | hc
  · rcases Bool.eq_false_or_eq_true (vb false y m d) with hv | hv
    · have E := Lib.hid (show 0 = Loc.lErr R y m d by unfold Loc.lErr; rw [if_pos ⟨of_decide_eq_true hc, .inl (vb_iff.1 hv)⟩])
      rw [hc] at C1
      rw [hv] at C2
      clear hc hv
      go_enter Try.func89, Try.ntmps89
      have S := ((St.start w).alloc 35 #[.int .i64 R]).alloc 25 #[.int .i64 y, .int .i64 m, .int .i64 d]
      simp only [World.size_alloc] at S
      go_wp2_with fail
      refine (C1.out _).mono ?_
      rintro e w1 ⟨rfl, hb1⟩
      have S := S.call hb1
      obtain ⟨d0, d1, d2⟩ := S.b0.three
      go_wp2_with fail
      refine (C2.out _).mono ?_
      rintro e w2 ⟨rfl, hb2⟩
      have S := S.call hb2
      go_wp2_with fail
      go_ret
      exact ⟨ret_int E.out, S.bel⟩
    · have hn : vb true y m d = false := vb_false fun h => by
        have := vb_true (Loc.old_of_new h)
        rw [hv] at this
        cases this
      have E := Lib.hid (show 1 = Loc.lErr R y m d by
        unfold Loc.lErr
        rw [if_neg]
        rintro ⟨_, h | h⟩
        · rw [vb_true h] at hv; cases hv
        · rw [vb_true h] at hn; cases hn)
      rw [hc] at C1
      rw [hv] at C2
      rw [hn] at C3
      clear hc hv hn
      go_enter Try.func89, Try.ntmps89
      have S := ((St.start w).alloc 35 #[.int .i64 R]).alloc 25 #[.int .i64 y, .int .i64 m, .int .i64 d]
      simp only [World.size_alloc] at S
      go_wp2_with fail
      refine (C1.out _).mono ?_
      rintro e w1 ⟨rfl, hb1⟩
      have S := S.call hb1
      obtain ⟨d0, d1, d2⟩ := S.b0.three
      go_wp2_with fail
      refine (C2.out _).mono ?_
      rintro e w2 ⟨rfl, hb2⟩
      have S := S.call hb2
      clear d0 d1 d2
      obtain ⟨d0, d1, d2⟩ := S.b0.three
      go_wp2_with fail
      refine (C3.out _).mono ?_
      rintro e w3 ⟨rfl, hb3⟩
      have S := S.call hb3
      go_wp2_with fail
      go_ret
      exact ⟨ret_int E.out, S.bel⟩
  · have E := Lib.hid (show 1 = Loc.lErr R y m d by
      unfold Loc.lErr
      rw [if_neg]
      exact fun h => of_decide_eq_false hc h.1)
    rw [hc] at C1
    clear hc
    go_enter Try.func89, Try.ntmps89
    have S := ((St.start w).alloc 35 #[.int .i64 R]).alloc 25 #[.int .i64 y, .int .i64 m, .int .i64 d]
    simp only [World.size_alloc] at S
    go_wp2_with fail
    refine (C1.out _).mono ?_
    rintro e w1 ⟨rfl, hb1⟩
    have S := S.call hb1
    go_wp2_with fail
    go_ret
    exact ⟨ret_int E.out, S.bel⟩

/-- What a call leaves that answers a number and a bool. -/
def NB (a : Int) (b : Bool) (w : World) (e : Ending) (w' : World) : Prop := e = .returned (.tuple #[.int .i64 a, .bool b]) ∧ Below w.heap.size w w'
theorem nb_eq {a a' : Int} {b b' : Bool} {w w' : World} {e : Ending} (h : NB a b w e w') (h1 : a = a') (h2 : b = b') : NB a' b' w e w' := by subst h1 h2; exact h
/-- A number, whatever the world. -/
def Num (y m d : Int) (f : Bool) (N : Int) : Prop := ∀ w, Calls Try.prog 75 #[.agg #[.int .i64 y, .int .i64 m, .int .i64 d], .bool f] w (Ic N w)
def OldB (y m d : Int) (b : Bool) : Prop := ∀ w, Calls Try.prog 54 #[.agg #[.int .i64 y, .int .i64 m, .int .i64 d]] w (Bl b w)
def NewB (y m d : Int) (b : Bool) : Prop := ∀ w, Calls Try.prog 56 #[.agg #[.int .i64 y, .int .i64 m, .int .i64 d]] w (Bl b w)

set_option maxHeartbeats 2000000 in
theorem spec_day_A (R y m d : Int) (O : Hid (OldB y m d true)) (N : Int) (CN : Hid (Num y m d false N)) (h : N < R) (w : World) :
    Calls Try.prog 90 #[.agg #[.int .i64 R], .agg #[.int .i64 y, .int .i64 m, .int .i64 d]] w (NB N true w) := by
  go_enter Try.func90, Try.ntmps90
  have S := ((St.start w).alloc 35 #[.int .i64 R]).alloc 25 #[.int .i64 y, .int .i64 m, .int .i64 d]
  simp only [World.size_alloc] at S
  have c0 := S.b1.cell 0
  simp only [List.getElem?_toArray, List.getElem?_cons_zero] at c0
  obtain ⟨d0, d1, d2⟩ := S.b0.three
  go_wp2_with fail
  refine wp_region_held_drew (S := (fun w' => w'.cell? ⟨w.heap.size, 0, none⟩ = some (.int .i64 R) ∧ w'.cell? ⟨w.heap.size + 1, 0, none⟩ = some (.int .i64 y) ∧ w'.cell? ⟨w.heap.size + 1, 1, none⟩ = some (.int .i64 m) ∧ w'.cell? ⟨w.heap.size + 1, 2, none⟩ = some (.int .i64 d) ∧ St [(w.heap.size + 1, 25, #[.int .i64 y, .int .i64 m, .int .i64 d]), (w.heap.size, 35, #[.int .i64 R])] w w')) (by kernel_rfl) ?_ (fun hHeld => ?_)
  · (exact ⟨c0, d0, d1, d2, S.drewN 1⟩)
  refine wpAnyH_take (i := 0) (oi := ⟨some 6, _, _, _, _, _⟩) (v := _) rfl (by kernel_rfl) (by kernel_rfl) (by kernel_rfl) (fun _ _ _ h => h) (Or.inl ⟨by kernel_rfl, by (intro wS hSw; (try dsimp only at hSw); go_split_ands; go_simp; (try with_reducible rfl))⟩) (by assumption) ?_
  try simp only [Act.put, List.setIfInBounds_toArray, List.set_cons_zero, List.set_cons_succ]
  refine wpAnyH_ready (rs := [1]) (by kernel_rfl) (by simp) ?_
  refine AllReadyH.cons (o := ⟨some 7, _, _, _, _, _⟩) rfl (fun K hK => ?_) AllReadyH.nil
  go_simp
  refine (O.out _).mono ?_
  rintro e wq ⟨rfl, hbq⟩
  go_wp2_with fail
  refine hK.out _ _ ?_ (fun hHeld => ?_)
  · (go_split_ands; exact keep2 (by assumption) hbq (by simp) (by simp))
  clear hK K
  try simp only [Act.put, List.setIfInBounds_toArray, List.set_cons_zero, List.set_cons_succ]
  refine wpAnyH_take (i := 2) (oi := ⟨some 8, _, _, _, _, _⟩) (v := _) rfl (by kernel_rfl) (by kernel_rfl) (by kernel_rfl) (fun _ _ _ h => h) (Or.inl ⟨by kernel_rfl, by (intro wS hSw; (try dsimp only at hSw); go_split_ands; go_simp; (try with_reducible rfl))⟩) (by assumption) ?_
  try simp only [Act.put, List.setIfInBounds_toArray, List.set_cons_zero, List.set_cons_succ]
  refine wpAnyH_take (i := 3) (oi := ⟨some 9, _, _, _, _, _⟩) (v := _) rfl (by kernel_rfl) (by kernel_rfl) (by kernel_rfl) (fun _ _ _ h => h) (Or.inl ⟨by kernel_rfl, by (intro wS hSw; (try dsimp only at hSw); go_split_ands; go_simp; (try with_reducible rfl))⟩) (by assumption) ?_
  try simp only [Act.put, List.setIfInBounds_toArray, List.set_cons_zero, List.set_cons_succ]
  refine wpAnyH_take (i := 5) (oi := ⟨some 11, _, _, _, _, _⟩) (v := _) rfl (by kernel_rfl) (by kernel_rfl) (by kernel_rfl) (fun _ _ _ h => h) (Or.inl ⟨by kernel_rfl, by (intro wS hSw; (try dsimp only at hSw); go_split_ands; go_simp; (try with_reducible rfl))⟩) (by assumption) ?_
  try simp only [Act.put, List.setIfInBounds_toArray, List.set_cons_zero, List.set_cons_succ]
  refine wpAnyH_take (i := 6) (oi := ⟨some 12, _, _, _, _, _⟩) (v := _) rfl (by kernel_rfl) (by kernel_rfl) (by kernel_rfl) (fun _ _ _ h => h) (Or.inl ⟨by kernel_rfl, by (intro wS hSw; (try dsimp only at hSw); go_split_ands; go_simp; (try with_reducible rfl))⟩) (by assumption) ?_
  try simp only [Act.put, List.setIfInBounds_toArray, List.set_cons_zero, List.set_cons_succ]
  refine wpAnyH_ready (rs := [4]) (by kernel_rfl) (by simp) ?_
  refine AllReadyH.cons (o := ⟨some 10, _, _, _, _, _⟩) rfl (fun K hK => ?_) AllReadyH.nil
  go_simp
  refine (CN.out _).mono ?_
  rintro e wq ⟨rfl, hbq⟩
  go_wp2_with fail
  refine hK.out _ _ ?_ (fun hHeld => ?_)
  · (go_split_ands; exact keep2 (by assumption) hbq (by simp) (by simp))
  clear hK K
  try simp only [Act.put, List.setIfInBounds_toArray, List.set_cons_zero, List.set_cons_succ]
  refine wpAnyH_take (i := 7) (oi := ⟨some 13, _, _, _, _, _⟩) (v := _) rfl (by kernel_rfl) (by kernel_rfl) (by kernel_rfl) (fun _ _ _ h => h) (Or.inl ⟨by kernel_rfl, by (intro wS hSw; (try dsimp only at hSw); go_split_ands; go_simp; (try with_reducible rfl))⟩) (by assumption) ?_
  try simp only [Act.put, List.setIfInBounds_toArray, List.set_cons_zero, List.set_cons_succ]
  refine wpAnyH_take (i := 8) (oi := ⟨some 14, _, _, _, _, _⟩) (v := _) rfl (by kernel_rfl) (by kernel_rfl) (by kernel_rfl) (fun _ _ _ h => h) (Or.inl ⟨by kernel_rfl, by (intro wS hSw; (try dsimp only at hSw); go_split_ands; go_simp; (try with_reducible rfl))⟩) (by assumption) ?_
  try simp only [Act.put, List.setIfInBounds_toArray, List.set_cons_zero, List.set_cons_succ]
  refine wpAnyH_done (by kernel_rfl) ?_ _
  clear c0 d0 d1 d2 S
  obtain ⟨c0, d0, d1, d2, S⟩ := hHeld
  go_wp2_with fail
  refine (CN.out _).mono ?_
  rintro e w5 ⟨rfl, hb5⟩
  have S := S.call hb5
  go_wp2_with fail
  go_ret2
  exact ⟨rfl, S.bel⟩

set_option maxHeartbeats 2000000 in
theorem spec_day_B1 (R y m d : Int) (O : Hid (OldB y m d true)) (N : Int) (CN : Hid (Num y m d false N)) (h : R ≤ N) (P : Hid (NewB y m d true)) (M : Int) (CM : Hid (Num y m d true M)) (h2 : R ≤ M) (w : World) :
    Calls Try.prog 90 #[.agg #[.int .i64 R], .agg #[.int .i64 y, .int .i64 m, .int .i64 d]] w (NB M true w) := by
  go_enter Try.func90, Try.ntmps90
  have S := ((St.start w).alloc 35 #[.int .i64 R]).alloc 25 #[.int .i64 y, .int .i64 m, .int .i64 d]
  simp only [World.size_alloc] at S
  have c0 := S.b1.cell 0
  simp only [List.getElem?_toArray, List.getElem?_cons_zero] at c0
  obtain ⟨d0, d1, d2⟩ := S.b0.three
  go_wp2_with fail
  refine wp_region_held_drew (S := (fun w' => w'.cell? ⟨w.heap.size, 0, none⟩ = some (.int .i64 R) ∧ w'.cell? ⟨w.heap.size + 1, 0, none⟩ = some (.int .i64 y) ∧ w'.cell? ⟨w.heap.size + 1, 1, none⟩ = some (.int .i64 m) ∧ w'.cell? ⟨w.heap.size + 1, 2, none⟩ = some (.int .i64 d) ∧ St [(w.heap.size + 1, 25, #[.int .i64 y, .int .i64 m, .int .i64 d]), (w.heap.size, 35, #[.int .i64 R])] w w')) (by kernel_rfl) ?_ (fun hHeld => ?_)
  · (exact ⟨c0, d0, d1, d2, S.drewN 1⟩)
  refine wpAnyH_take (i := 0) (oi := ⟨some 6, _, _, _, _, _⟩) (v := _) rfl (by kernel_rfl) (by kernel_rfl) (by kernel_rfl) (fun _ _ _ h => h) (Or.inl ⟨by kernel_rfl, by (intro wS hSw; (try dsimp only at hSw); go_split_ands; go_simp; (try with_reducible rfl))⟩) (by assumption) ?_
  try simp only [Act.put, List.setIfInBounds_toArray, List.set_cons_zero, List.set_cons_succ]
  refine wpAnyH_ready (rs := [1]) (by kernel_rfl) (by simp) ?_
  refine AllReadyH.cons (o := ⟨some 7, _, _, _, _, _⟩) rfl (fun K hK => ?_) AllReadyH.nil
  go_simp
  refine (O.out _).mono ?_
  rintro e wq ⟨rfl, hbq⟩
  go_wp2_with fail
  refine hK.out _ _ ?_ (fun hHeld => ?_)
  · (go_split_ands; exact keep2 (by assumption) hbq (by simp) (by simp))
  clear hK K
  try simp only [Act.put, List.setIfInBounds_toArray, List.set_cons_zero, List.set_cons_succ]
  refine wpAnyH_take (i := 2) (oi := ⟨some 8, _, _, _, _, _⟩) (v := _) rfl (by kernel_rfl) (by kernel_rfl) (by kernel_rfl) (fun _ _ _ h => h) (Or.inl ⟨by kernel_rfl, by (intro wS hSw; (try dsimp only at hSw); go_split_ands; go_simp; (try with_reducible rfl))⟩) (by assumption) ?_
  try simp only [Act.put, List.setIfInBounds_toArray, List.set_cons_zero, List.set_cons_succ]
  refine wpAnyH_take (i := 3) (oi := ⟨some 9, _, _, _, _, _⟩) (v := _) rfl (by kernel_rfl) (by kernel_rfl) (by kernel_rfl) (fun _ _ _ h => h) (Or.inl ⟨by kernel_rfl, by (intro wS hSw; (try dsimp only at hSw); go_split_ands; go_simp; (try with_reducible rfl))⟩) (by assumption) ?_
  try simp only [Act.put, List.setIfInBounds_toArray, List.set_cons_zero, List.set_cons_succ]
  refine wpAnyH_take (i := 5) (oi := ⟨some 11, _, _, _, _, _⟩) (v := _) rfl (by kernel_rfl) (by kernel_rfl) (by kernel_rfl) (fun _ _ _ h => h) (Or.inl ⟨by kernel_rfl, by (intro wS hSw; (try dsimp only at hSw); go_split_ands; go_simp; (try with_reducible rfl))⟩) (by assumption) ?_
  try simp only [Act.put, List.setIfInBounds_toArray, List.set_cons_zero, List.set_cons_succ]
  refine wpAnyH_take (i := 6) (oi := ⟨some 12, _, _, _, _, _⟩) (v := _) rfl (by kernel_rfl) (by kernel_rfl) (by kernel_rfl) (fun _ _ _ h => h) (Or.inl ⟨by kernel_rfl, by (intro wS hSw; (try dsimp only at hSw); go_split_ands; go_simp; (try with_reducible rfl))⟩) (by assumption) ?_
  try simp only [Act.put, List.setIfInBounds_toArray, List.set_cons_zero, List.set_cons_succ]
  refine wpAnyH_ready (rs := [4]) (by kernel_rfl) (by simp) ?_
  refine AllReadyH.cons (o := ⟨some 10, _, _, _, _, _⟩) rfl (fun K hK => ?_) AllReadyH.nil
  go_simp
  refine (CN.out _).mono ?_
  rintro e wq ⟨rfl, hbq⟩
  go_wp2_with fail
  refine hK.out _ _ ?_ (fun hHeld => ?_)
  · (go_split_ands; exact keep2 (by assumption) hbq (by simp) (by simp))
  clear hK K
  try simp only [Act.put, List.setIfInBounds_toArray, List.set_cons_zero, List.set_cons_succ]
  refine wpAnyH_take (i := 7) (oi := ⟨some 13, _, _, _, _, _⟩) (v := _) rfl (by kernel_rfl) (by kernel_rfl) (by kernel_rfl) (fun _ _ _ h => h) (Or.inl ⟨by kernel_rfl, by (intro wS hSw; (try dsimp only at hSw); go_split_ands; go_simp; (try with_reducible rfl))⟩) (by assumption) ?_
  try simp only [Act.put, List.setIfInBounds_toArray, List.set_cons_zero, List.set_cons_succ]
  refine wpAnyH_take (i := 8) (oi := ⟨some 14, _, _, _, _, _⟩) (v := _) rfl (by kernel_rfl) (by kernel_rfl) (by kernel_rfl) (fun _ _ _ h => h) (Or.inl ⟨by kernel_rfl, by (intro wS hSw; (try dsimp only at hSw); go_split_ands; go_simp; (try with_reducible rfl))⟩) (by assumption) ?_
  try simp only [Act.put, List.setIfInBounds_toArray, List.set_cons_zero, List.set_cons_succ]
  refine wpAnyH_done (by kernel_rfl) ?_ _
  clear c0 d0 d1 d2 S
  obtain ⟨c0, d0, d1, d2, S⟩ := hHeld
  go_wp2_with fail
  refine wp_region_held_drew (S := (fun w' => w'.cell? ⟨w.heap.size, 0, none⟩ = some (.int .i64 R) ∧ w'.cell? ⟨w.heap.size + 1, 0, none⟩ = some (.int .i64 y) ∧ w'.cell? ⟨w.heap.size + 1, 1, none⟩ = some (.int .i64 m) ∧ w'.cell? ⟨w.heap.size + 1, 2, none⟩ = some (.int .i64 d) ∧ St [(w.heap.size + 1, 25, #[.int .i64 y, .int .i64 m, .int .i64 d]), (w.heap.size, 35, #[.int .i64 R])] w w')) (by kernel_rfl) ?_ (fun hHeld => ?_)
  · (exact ⟨c0, d0, d1, d2, S.drewN 1⟩)
  refine wpAnyH_take (i := 0) (oi := ⟨some 17, _, _, _, _, _⟩) (v := _) rfl (by kernel_rfl) (by kernel_rfl) (by kernel_rfl) (fun _ _ _ h => h) (Or.inl ⟨by kernel_rfl, by (intro wS hSw; (try dsimp only at hSw); go_split_ands; go_simp; (try with_reducible rfl))⟩) (by assumption) ?_
  try simp only [Act.put, List.setIfInBounds_toArray, List.set_cons_zero, List.set_cons_succ]
  refine wpAnyH_ready (rs := [1]) (by kernel_rfl) (by simp) ?_
  refine AllReadyH.cons (o := ⟨some 18, _, _, _, _, _⟩) rfl (fun K hK => ?_) AllReadyH.nil
  go_simp
  refine (P.out _).mono ?_
  rintro e wq ⟨rfl, hbq⟩
  go_wp2_with fail
  refine hK.out _ _ ?_ (fun hHeld => ?_)
  · (go_split_ands; exact keep2 (by assumption) hbq (by simp) (by simp))
  clear hK K
  try simp only [Act.put, List.setIfInBounds_toArray, List.set_cons_zero, List.set_cons_succ]
  refine wpAnyH_take (i := 2) (oi := ⟨some 19, _, _, _, _, _⟩) (v := _) rfl (by kernel_rfl) (by kernel_rfl) (by kernel_rfl) (fun _ _ _ h => h) (Or.inl ⟨by kernel_rfl, by (intro wS hSw; (try dsimp only at hSw); go_split_ands; go_simp; (try with_reducible rfl))⟩) (by assumption) ?_
  try simp only [Act.put, List.setIfInBounds_toArray, List.set_cons_zero, List.set_cons_succ]
  refine wpAnyH_take (i := 3) (oi := ⟨some 20, _, _, _, _, _⟩) (v := _) rfl (by kernel_rfl) (by kernel_rfl) (by kernel_rfl) (fun _ _ _ h => h) (Or.inl ⟨by kernel_rfl, by (intro wS hSw; (try dsimp only at hSw); go_split_ands; go_simp; (try with_reducible rfl))⟩) (by assumption) ?_
  try simp only [Act.put, List.setIfInBounds_toArray, List.set_cons_zero, List.set_cons_succ]
  refine wpAnyH_take (i := 5) (oi := ⟨some 22, _, _, _, _, _⟩) (v := _) rfl (by kernel_rfl) (by kernel_rfl) (by kernel_rfl) (fun _ _ _ h => h) (Or.inl ⟨by kernel_rfl, by (intro wS hSw; (try dsimp only at hSw); go_split_ands; go_simp; (try with_reducible rfl))⟩) (by assumption) ?_
  try simp only [Act.put, List.setIfInBounds_toArray, List.set_cons_zero, List.set_cons_succ]
  refine wpAnyH_take (i := 6) (oi := ⟨some 23, _, _, _, _, _⟩) (v := _) rfl (by kernel_rfl) (by kernel_rfl) (by kernel_rfl) (fun _ _ _ h => h) (Or.inl ⟨by kernel_rfl, by (intro wS hSw; (try dsimp only at hSw); go_split_ands; go_simp; (try with_reducible rfl))⟩) (by assumption) ?_
  try simp only [Act.put, List.setIfInBounds_toArray, List.set_cons_zero, List.set_cons_succ]
  refine wpAnyH_ready (rs := [4]) (by kernel_rfl) (by simp) ?_
  refine AllReadyH.cons (o := ⟨some 21, _, _, _, _, _⟩) rfl (fun K hK => ?_) AllReadyH.nil
  go_simp
  refine (CM.out _).mono ?_
  rintro e wq ⟨rfl, hbq⟩
  go_wp2_with fail
  refine hK.out _ _ ?_ (fun hHeld => ?_)
  · (go_split_ands; exact keep2 (by assumption) hbq (by simp) (by simp))
  clear hK K
  try simp only [Act.put, List.setIfInBounds_toArray, List.set_cons_zero, List.set_cons_succ]
  refine wpAnyH_take (i := 7) (oi := ⟨some 24, _, _, _, _, _⟩) (v := _) rfl (by kernel_rfl) (by kernel_rfl) (by kernel_rfl) (fun _ _ _ h => h) (Or.inl ⟨by kernel_rfl, by (intro wS hSw; (try dsimp only at hSw); go_split_ands; go_simp; (try with_reducible rfl))⟩) (by assumption) ?_
  try simp only [Act.put, List.setIfInBounds_toArray, List.set_cons_zero, List.set_cons_succ]
  refine wpAnyH_take (i := 8) (oi := ⟨some 25, _, _, _, _, _⟩) (v := _) rfl (by kernel_rfl) (by kernel_rfl) (by kernel_rfl) (fun _ _ _ h => h) (Or.inl ⟨by kernel_rfl, by (intro wS hSw; (try dsimp only at hSw); go_split_ands; go_simp; (try with_reducible rfl))⟩) (by assumption) ?_
  try simp only [Act.put, List.setIfInBounds_toArray, List.set_cons_zero, List.set_cons_succ]
  refine wpAnyH_done (by kernel_rfl) ?_ _
  clear c0 d0 d1 d2 S
  obtain ⟨c0, d0, d1, d2, S⟩ := hHeld
  go_wp2_with fail
  refine (CM.out _).mono ?_
  rintro e w5 ⟨rfl, hb5⟩
  have S := S.call hb5
  go_wp2_with fail
  go_ret2
  exact ⟨rfl, S.bel⟩

set_option maxHeartbeats 2000000 in
theorem spec_day_B2 (R y m d : Int) (O : Hid (OldB y m d true)) (N : Int) (CN : Hid (Num y m d false N)) (h : R ≤ N) (P : Hid (NewB y m d true)) (M : Int) (CM : Hid (Num y m d true M)) (h2 : M < R) (w : World) :
    Calls Try.prog 90 #[.agg #[.int .i64 R], .agg #[.int .i64 y, .int .i64 m, .int .i64 d]] w (NB 0 false w) := by
  go_enter Try.func90, Try.ntmps90
  have S := ((St.start w).alloc 35 #[.int .i64 R]).alloc 25 #[.int .i64 y, .int .i64 m, .int .i64 d]
  simp only [World.size_alloc] at S
  have c0 := S.b1.cell 0
  simp only [List.getElem?_toArray, List.getElem?_cons_zero] at c0
  obtain ⟨d0, d1, d2⟩ := S.b0.three
  go_wp2_with fail
  refine wp_region_held_drew (S := (fun w' => w'.cell? ⟨w.heap.size, 0, none⟩ = some (.int .i64 R) ∧ w'.cell? ⟨w.heap.size + 1, 0, none⟩ = some (.int .i64 y) ∧ w'.cell? ⟨w.heap.size + 1, 1, none⟩ = some (.int .i64 m) ∧ w'.cell? ⟨w.heap.size + 1, 2, none⟩ = some (.int .i64 d) ∧ St [(w.heap.size + 1, 25, #[.int .i64 y, .int .i64 m, .int .i64 d]), (w.heap.size, 35, #[.int .i64 R])] w w')) (by kernel_rfl) ?_ (fun hHeld => ?_)
  · (exact ⟨c0, d0, d1, d2, S.drewN 1⟩)
  refine wpAnyH_take (i := 0) (oi := ⟨some 6, _, _, _, _, _⟩) (v := _) rfl (by kernel_rfl) (by kernel_rfl) (by kernel_rfl) (fun _ _ _ h => h) (Or.inl ⟨by kernel_rfl, by (intro wS hSw; (try dsimp only at hSw); go_split_ands; go_simp; (try with_reducible rfl))⟩) (by assumption) ?_
  try simp only [Act.put, List.setIfInBounds_toArray, List.set_cons_zero, List.set_cons_succ]
  refine wpAnyH_ready (rs := [1]) (by kernel_rfl) (by simp) ?_
  refine AllReadyH.cons (o := ⟨some 7, _, _, _, _, _⟩) rfl (fun K hK => ?_) AllReadyH.nil
  go_simp
  refine (O.out _).mono ?_
  rintro e wq ⟨rfl, hbq⟩
  go_wp2_with fail
  refine hK.out _ _ ?_ (fun hHeld => ?_)
  · (go_split_ands; exact keep2 (by assumption) hbq (by simp) (by simp))
  clear hK K
  try simp only [Act.put, List.setIfInBounds_toArray, List.set_cons_zero, List.set_cons_succ]
  refine wpAnyH_take (i := 2) (oi := ⟨some 8, _, _, _, _, _⟩) (v := _) rfl (by kernel_rfl) (by kernel_rfl) (by kernel_rfl) (fun _ _ _ h => h) (Or.inl ⟨by kernel_rfl, by (intro wS hSw; (try dsimp only at hSw); go_split_ands; go_simp; (try with_reducible rfl))⟩) (by assumption) ?_
  try simp only [Act.put, List.setIfInBounds_toArray, List.set_cons_zero, List.set_cons_succ]
  refine wpAnyH_take (i := 3) (oi := ⟨some 9, _, _, _, _, _⟩) (v := _) rfl (by kernel_rfl) (by kernel_rfl) (by kernel_rfl) (fun _ _ _ h => h) (Or.inl ⟨by kernel_rfl, by (intro wS hSw; (try dsimp only at hSw); go_split_ands; go_simp; (try with_reducible rfl))⟩) (by assumption) ?_
  try simp only [Act.put, List.setIfInBounds_toArray, List.set_cons_zero, List.set_cons_succ]
  refine wpAnyH_take (i := 5) (oi := ⟨some 11, _, _, _, _, _⟩) (v := _) rfl (by kernel_rfl) (by kernel_rfl) (by kernel_rfl) (fun _ _ _ h => h) (Or.inl ⟨by kernel_rfl, by (intro wS hSw; (try dsimp only at hSw); go_split_ands; go_simp; (try with_reducible rfl))⟩) (by assumption) ?_
  try simp only [Act.put, List.setIfInBounds_toArray, List.set_cons_zero, List.set_cons_succ]
  refine wpAnyH_take (i := 6) (oi := ⟨some 12, _, _, _, _, _⟩) (v := _) rfl (by kernel_rfl) (by kernel_rfl) (by kernel_rfl) (fun _ _ _ h => h) (Or.inl ⟨by kernel_rfl, by (intro wS hSw; (try dsimp only at hSw); go_split_ands; go_simp; (try with_reducible rfl))⟩) (by assumption) ?_
  try simp only [Act.put, List.setIfInBounds_toArray, List.set_cons_zero, List.set_cons_succ]
  refine wpAnyH_ready (rs := [4]) (by kernel_rfl) (by simp) ?_
  refine AllReadyH.cons (o := ⟨some 10, _, _, _, _, _⟩) rfl (fun K hK => ?_) AllReadyH.nil
  go_simp
  refine (CN.out _).mono ?_
  rintro e wq ⟨rfl, hbq⟩
  go_wp2_with fail
  refine hK.out _ _ ?_ (fun hHeld => ?_)
  · (go_split_ands; exact keep2 (by assumption) hbq (by simp) (by simp))
  clear hK K
  try simp only [Act.put, List.setIfInBounds_toArray, List.set_cons_zero, List.set_cons_succ]
  refine wpAnyH_take (i := 7) (oi := ⟨some 13, _, _, _, _, _⟩) (v := _) rfl (by kernel_rfl) (by kernel_rfl) (by kernel_rfl) (fun _ _ _ h => h) (Or.inl ⟨by kernel_rfl, by (intro wS hSw; (try dsimp only at hSw); go_split_ands; go_simp; (try with_reducible rfl))⟩) (by assumption) ?_
  try simp only [Act.put, List.setIfInBounds_toArray, List.set_cons_zero, List.set_cons_succ]
  refine wpAnyH_take (i := 8) (oi := ⟨some 14, _, _, _, _, _⟩) (v := _) rfl (by kernel_rfl) (by kernel_rfl) (by kernel_rfl) (fun _ _ _ h => h) (Or.inl ⟨by kernel_rfl, by (intro wS hSw; (try dsimp only at hSw); go_split_ands; go_simp; (try with_reducible rfl))⟩) (by assumption) ?_
  try simp only [Act.put, List.setIfInBounds_toArray, List.set_cons_zero, List.set_cons_succ]
  refine wpAnyH_done (by kernel_rfl) ?_ _
  clear c0 d0 d1 d2 S
  obtain ⟨c0, d0, d1, d2, S⟩ := hHeld
  go_wp2_with fail
  refine wp_region_held_drew (S := (fun w' => w'.cell? ⟨w.heap.size, 0, none⟩ = some (.int .i64 R) ∧ w'.cell? ⟨w.heap.size + 1, 0, none⟩ = some (.int .i64 y) ∧ w'.cell? ⟨w.heap.size + 1, 1, none⟩ = some (.int .i64 m) ∧ w'.cell? ⟨w.heap.size + 1, 2, none⟩ = some (.int .i64 d) ∧ St [(w.heap.size + 1, 25, #[.int .i64 y, .int .i64 m, .int .i64 d]), (w.heap.size, 35, #[.int .i64 R])] w w')) (by kernel_rfl) ?_ (fun hHeld => ?_)
  · (exact ⟨c0, d0, d1, d2, S.drewN 1⟩)
  refine wpAnyH_take (i := 0) (oi := ⟨some 17, _, _, _, _, _⟩) (v := _) rfl (by kernel_rfl) (by kernel_rfl) (by kernel_rfl) (fun _ _ _ h => h) (Or.inl ⟨by kernel_rfl, by (intro wS hSw; (try dsimp only at hSw); go_split_ands; go_simp; (try with_reducible rfl))⟩) (by assumption) ?_
  try simp only [Act.put, List.setIfInBounds_toArray, List.set_cons_zero, List.set_cons_succ]
  refine wpAnyH_ready (rs := [1]) (by kernel_rfl) (by simp) ?_
  refine AllReadyH.cons (o := ⟨some 18, _, _, _, _, _⟩) rfl (fun K hK => ?_) AllReadyH.nil
  go_simp
  refine (P.out _).mono ?_
  rintro e wq ⟨rfl, hbq⟩
  go_wp2_with fail
  refine hK.out _ _ ?_ (fun hHeld => ?_)
  · (go_split_ands; exact keep2 (by assumption) hbq (by simp) (by simp))
  clear hK K
  try simp only [Act.put, List.setIfInBounds_toArray, List.set_cons_zero, List.set_cons_succ]
  refine wpAnyH_take (i := 2) (oi := ⟨some 19, _, _, _, _, _⟩) (v := _) rfl (by kernel_rfl) (by kernel_rfl) (by kernel_rfl) (fun _ _ _ h => h) (Or.inl ⟨by kernel_rfl, by (intro wS hSw; (try dsimp only at hSw); go_split_ands; go_simp; (try with_reducible rfl))⟩) (by assumption) ?_
  try simp only [Act.put, List.setIfInBounds_toArray, List.set_cons_zero, List.set_cons_succ]
  refine wpAnyH_take (i := 3) (oi := ⟨some 20, _, _, _, _, _⟩) (v := _) rfl (by kernel_rfl) (by kernel_rfl) (by kernel_rfl) (fun _ _ _ h => h) (Or.inl ⟨by kernel_rfl, by (intro wS hSw; (try dsimp only at hSw); go_split_ands; go_simp; (try with_reducible rfl))⟩) (by assumption) ?_
  try simp only [Act.put, List.setIfInBounds_toArray, List.set_cons_zero, List.set_cons_succ]
  refine wpAnyH_take (i := 5) (oi := ⟨some 22, _, _, _, _, _⟩) (v := _) rfl (by kernel_rfl) (by kernel_rfl) (by kernel_rfl) (fun _ _ _ h => h) (Or.inl ⟨by kernel_rfl, by (intro wS hSw; (try dsimp only at hSw); go_split_ands; go_simp; (try with_reducible rfl))⟩) (by assumption) ?_
  try simp only [Act.put, List.setIfInBounds_toArray, List.set_cons_zero, List.set_cons_succ]
  refine wpAnyH_take (i := 6) (oi := ⟨some 23, _, _, _, _, _⟩) (v := _) rfl (by kernel_rfl) (by kernel_rfl) (by kernel_rfl) (fun _ _ _ h => h) (Or.inl ⟨by kernel_rfl, by (intro wS hSw; (try dsimp only at hSw); go_split_ands; go_simp; (try with_reducible rfl))⟩) (by assumption) ?_
  try simp only [Act.put, List.setIfInBounds_toArray, List.set_cons_zero, List.set_cons_succ]
  refine wpAnyH_ready (rs := [4]) (by kernel_rfl) (by simp) ?_
  refine AllReadyH.cons (o := ⟨some 21, _, _, _, _, _⟩) rfl (fun K hK => ?_) AllReadyH.nil
  go_simp
  refine (CM.out _).mono ?_
  rintro e wq ⟨rfl, hbq⟩
  go_wp2_with fail
  refine hK.out _ _ ?_ (fun hHeld => ?_)
  · (go_split_ands; exact keep2 (by assumption) hbq (by simp) (by simp))
  clear hK K
  try simp only [Act.put, List.setIfInBounds_toArray, List.set_cons_zero, List.set_cons_succ]
  refine wpAnyH_take (i := 7) (oi := ⟨some 24, _, _, _, _, _⟩) (v := _) rfl (by kernel_rfl) (by kernel_rfl) (by kernel_rfl) (fun _ _ _ h => h) (Or.inl ⟨by kernel_rfl, by (intro wS hSw; (try dsimp only at hSw); go_split_ands; go_simp; (try with_reducible rfl))⟩) (by assumption) ?_
  try simp only [Act.put, List.setIfInBounds_toArray, List.set_cons_zero, List.set_cons_succ]
  refine wpAnyH_take (i := 8) (oi := ⟨some 25, _, _, _, _, _⟩) (v := _) rfl (by kernel_rfl) (by kernel_rfl) (by kernel_rfl) (fun _ _ _ h => h) (Or.inl ⟨by kernel_rfl, by (intro wS hSw; (try dsimp only at hSw); go_split_ands; go_simp; (try with_reducible rfl))⟩) (by assumption) ?_
  try simp only [Act.put, List.setIfInBounds_toArray, List.set_cons_zero, List.set_cons_succ]
  refine wpAnyH_done (by kernel_rfl) ?_ _
  clear c0 d0 d1 d2 S
  obtain ⟨c0, d0, d1, d2, S⟩ := hHeld
  go_wp2_with fail
  go_ret2
  exact ⟨rfl, S.bel⟩

set_option maxHeartbeats 2000000 in
theorem spec_day_B3 (R y m d : Int) (O : Hid (OldB y m d true)) (N : Int) (CN : Hid (Num y m d false N)) (h : R ≤ N) (P : Hid (NewB y m d false)) (w : World) :
    Calls Try.prog 90 #[.agg #[.int .i64 R], .agg #[.int .i64 y, .int .i64 m, .int .i64 d]] w (NB 0 false w) := by
  go_enter Try.func90, Try.ntmps90
  have S := ((St.start w).alloc 35 #[.int .i64 R]).alloc 25 #[.int .i64 y, .int .i64 m, .int .i64 d]
  simp only [World.size_alloc] at S
  have c0 := S.b1.cell 0
  simp only [List.getElem?_toArray, List.getElem?_cons_zero] at c0
  obtain ⟨d0, d1, d2⟩ := S.b0.three
  go_wp2_with fail
  refine wp_region_held_drew (S := (fun w' => w'.cell? ⟨w.heap.size, 0, none⟩ = some (.int .i64 R) ∧ w'.cell? ⟨w.heap.size + 1, 0, none⟩ = some (.int .i64 y) ∧ w'.cell? ⟨w.heap.size + 1, 1, none⟩ = some (.int .i64 m) ∧ w'.cell? ⟨w.heap.size + 1, 2, none⟩ = some (.int .i64 d) ∧ St [(w.heap.size + 1, 25, #[.int .i64 y, .int .i64 m, .int .i64 d]), (w.heap.size, 35, #[.int .i64 R])] w w')) (by kernel_rfl) ?_ (fun hHeld => ?_)
  · (exact ⟨c0, d0, d1, d2, S.drewN 1⟩)
  refine wpAnyH_take (i := 0) (oi := ⟨some 6, _, _, _, _, _⟩) (v := _) rfl (by kernel_rfl) (by kernel_rfl) (by kernel_rfl) (fun _ _ _ h => h) (Or.inl ⟨by kernel_rfl, by (intro wS hSw; (try dsimp only at hSw); go_split_ands; go_simp; (try with_reducible rfl))⟩) (by assumption) ?_
  try simp only [Act.put, List.setIfInBounds_toArray, List.set_cons_zero, List.set_cons_succ]
  refine wpAnyH_ready (rs := [1]) (by kernel_rfl) (by simp) ?_
  refine AllReadyH.cons (o := ⟨some 7, _, _, _, _, _⟩) rfl (fun K hK => ?_) AllReadyH.nil
  go_simp
  refine (O.out _).mono ?_
  rintro e wq ⟨rfl, hbq⟩
  go_wp2_with fail
  refine hK.out _ _ ?_ (fun hHeld => ?_)
  · (go_split_ands; exact keep2 (by assumption) hbq (by simp) (by simp))
  clear hK K
  try simp only [Act.put, List.setIfInBounds_toArray, List.set_cons_zero, List.set_cons_succ]
  refine wpAnyH_take (i := 2) (oi := ⟨some 8, _, _, _, _, _⟩) (v := _) rfl (by kernel_rfl) (by kernel_rfl) (by kernel_rfl) (fun _ _ _ h => h) (Or.inl ⟨by kernel_rfl, by (intro wS hSw; (try dsimp only at hSw); go_split_ands; go_simp; (try with_reducible rfl))⟩) (by assumption) ?_
  try simp only [Act.put, List.setIfInBounds_toArray, List.set_cons_zero, List.set_cons_succ]
  refine wpAnyH_take (i := 3) (oi := ⟨some 9, _, _, _, _, _⟩) (v := _) rfl (by kernel_rfl) (by kernel_rfl) (by kernel_rfl) (fun _ _ _ h => h) (Or.inl ⟨by kernel_rfl, by (intro wS hSw; (try dsimp only at hSw); go_split_ands; go_simp; (try with_reducible rfl))⟩) (by assumption) ?_
  try simp only [Act.put, List.setIfInBounds_toArray, List.set_cons_zero, List.set_cons_succ]
  refine wpAnyH_take (i := 5) (oi := ⟨some 11, _, _, _, _, _⟩) (v := _) rfl (by kernel_rfl) (by kernel_rfl) (by kernel_rfl) (fun _ _ _ h => h) (Or.inl ⟨by kernel_rfl, by (intro wS hSw; (try dsimp only at hSw); go_split_ands; go_simp; (try with_reducible rfl))⟩) (by assumption) ?_
  try simp only [Act.put, List.setIfInBounds_toArray, List.set_cons_zero, List.set_cons_succ]
  refine wpAnyH_take (i := 6) (oi := ⟨some 12, _, _, _, _, _⟩) (v := _) rfl (by kernel_rfl) (by kernel_rfl) (by kernel_rfl) (fun _ _ _ h => h) (Or.inl ⟨by kernel_rfl, by (intro wS hSw; (try dsimp only at hSw); go_split_ands; go_simp; (try with_reducible rfl))⟩) (by assumption) ?_
  try simp only [Act.put, List.setIfInBounds_toArray, List.set_cons_zero, List.set_cons_succ]
  refine wpAnyH_ready (rs := [4]) (by kernel_rfl) (by simp) ?_
  refine AllReadyH.cons (o := ⟨some 10, _, _, _, _, _⟩) rfl (fun K hK => ?_) AllReadyH.nil
  go_simp
  refine (CN.out _).mono ?_
  rintro e wq ⟨rfl, hbq⟩
  go_wp2_with fail
  refine hK.out _ _ ?_ (fun hHeld => ?_)
  · (go_split_ands; exact keep2 (by assumption) hbq (by simp) (by simp))
  clear hK K
  try simp only [Act.put, List.setIfInBounds_toArray, List.set_cons_zero, List.set_cons_succ]
  refine wpAnyH_take (i := 7) (oi := ⟨some 13, _, _, _, _, _⟩) (v := _) rfl (by kernel_rfl) (by kernel_rfl) (by kernel_rfl) (fun _ _ _ h => h) (Or.inl ⟨by kernel_rfl, by (intro wS hSw; (try dsimp only at hSw); go_split_ands; go_simp; (try with_reducible rfl))⟩) (by assumption) ?_
  try simp only [Act.put, List.setIfInBounds_toArray, List.set_cons_zero, List.set_cons_succ]
  refine wpAnyH_take (i := 8) (oi := ⟨some 14, _, _, _, _, _⟩) (v := _) rfl (by kernel_rfl) (by kernel_rfl) (by kernel_rfl) (fun _ _ _ h => h) (Or.inl ⟨by kernel_rfl, by (intro wS hSw; (try dsimp only at hSw); go_split_ands; go_simp; (try with_reducible rfl))⟩) (by assumption) ?_
  try simp only [Act.put, List.setIfInBounds_toArray, List.set_cons_zero, List.set_cons_succ]
  refine wpAnyH_done (by kernel_rfl) ?_ _
  clear c0 d0 d1 d2 S
  obtain ⟨c0, d0, d1, d2, S⟩ := hHeld
  go_wp2_with fail
  refine wp_region_held_drew (S := (fun w' => w'.cell? ⟨w.heap.size, 0, none⟩ = some (.int .i64 R) ∧ w'.cell? ⟨w.heap.size + 1, 0, none⟩ = some (.int .i64 y) ∧ w'.cell? ⟨w.heap.size + 1, 1, none⟩ = some (.int .i64 m) ∧ w'.cell? ⟨w.heap.size + 1, 2, none⟩ = some (.int .i64 d) ∧ St [(w.heap.size + 1, 25, #[.int .i64 y, .int .i64 m, .int .i64 d]), (w.heap.size, 35, #[.int .i64 R])] w w')) (by kernel_rfl) ?_ (fun hHeld => ?_)
  · (exact ⟨c0, d0, d1, d2, S.drewN 1⟩)
  refine wpAnyH_take (i := 0) (oi := ⟨some 17, _, _, _, _, _⟩) (v := _) rfl (by kernel_rfl) (by kernel_rfl) (by kernel_rfl) (fun _ _ _ h => h) (Or.inl ⟨by kernel_rfl, by (intro wS hSw; (try dsimp only at hSw); go_split_ands; go_simp; (try with_reducible rfl))⟩) (by assumption) ?_
  try simp only [Act.put, List.setIfInBounds_toArray, List.set_cons_zero, List.set_cons_succ]
  refine wpAnyH_ready (rs := [1]) (by kernel_rfl) (by simp) ?_
  refine AllReadyH.cons (o := ⟨some 18, _, _, _, _, _⟩) rfl (fun K hK => ?_) AllReadyH.nil
  go_simp
  refine (P.out _).mono ?_
  rintro e wq ⟨rfl, hbq⟩
  go_wp2_with fail
  refine hK.out _ _ ?_ (fun hHeld => ?_)
  · (go_split_ands; exact keep2 (by assumption) hbq (by simp) (by simp))
  clear hK K
  try simp only [Act.put, List.setIfInBounds_toArray, List.set_cons_zero, List.set_cons_succ]
  refine wpAnyH_take (i := 2) (oi := ⟨some 19, _, _, _, _, _⟩) (v := _) rfl (by kernel_rfl) (by kernel_rfl) (by kernel_rfl) (fun _ _ _ h => h) (Or.inl ⟨by kernel_rfl, by (intro wS hSw; (try dsimp only at hSw); go_split_ands; go_simp; (try with_reducible rfl))⟩) (by assumption) ?_
  try simp only [Act.put, List.setIfInBounds_toArray, List.set_cons_zero, List.set_cons_succ]
  refine wpAnyH_take (i := 3) (oi := ⟨some 20, _, _, _, _, _⟩) (v := undef) rfl (by kernel_rfl) (by kernel_rfl) (by kernel_rfl) (fun _ _ _ h => h) (Or.inr ⟨by kernel_rfl, rfl⟩) (by assumption) ?_
  try simp only [Act.put, List.setIfInBounds_toArray, List.set_cons_zero, List.set_cons_succ]
  refine wpAnyH_take (i := 4) (oi := ⟨some 21, _, _, _, _, _⟩) (v := undef) rfl (by kernel_rfl) (by kernel_rfl) (by kernel_rfl) (fun _ _ _ h => h) (Or.inr ⟨by kernel_rfl, rfl⟩) (by assumption) ?_
  try simp only [Act.put, List.setIfInBounds_toArray, List.set_cons_zero, List.set_cons_succ]
  refine wpAnyH_take (i := 5) (oi := ⟨some 22, _, _, _, _, _⟩) (v := undef) rfl (by kernel_rfl) (by kernel_rfl) (by kernel_rfl) (fun _ _ _ h => h) (Or.inr ⟨by kernel_rfl, rfl⟩) (by assumption) ?_
  try simp only [Act.put, List.setIfInBounds_toArray, List.set_cons_zero, List.set_cons_succ]
  refine wpAnyH_take (i := 6) (oi := ⟨some 23, _, _, _, _, _⟩) (v := undef) rfl (by kernel_rfl) (by kernel_rfl) (by kernel_rfl) (fun _ _ _ h => h) (Or.inr ⟨by kernel_rfl, rfl⟩) (by assumption) ?_
  try simp only [Act.put, List.setIfInBounds_toArray, List.set_cons_zero, List.set_cons_succ]
  refine wpAnyH_take (i := 7) (oi := ⟨some 24, _, _, _, _, _⟩) (v := undef) rfl (by kernel_rfl) (by kernel_rfl) (by kernel_rfl) (fun _ _ _ h => h) (Or.inr ⟨by kernel_rfl, rfl⟩) (by assumption) ?_
  try simp only [Act.put, List.setIfInBounds_toArray, List.set_cons_zero, List.set_cons_succ]
  refine wpAnyH_take (i := 8) (oi := ⟨some 25, _, _, _, _, _⟩) (v := _) rfl (by kernel_rfl) (by kernel_rfl) (by kernel_rfl) (fun _ _ _ h => h) (Or.inl ⟨by kernel_rfl, by (intro wS hSw; (try dsimp only at hSw); go_split_ands; go_simp; (try with_reducible rfl))⟩) (by assumption) ?_
  try simp only [Act.put, List.setIfInBounds_toArray, List.set_cons_zero, List.set_cons_succ]
  refine wpAnyH_done (by kernel_rfl) ?_ _
  clear c0 d0 d1 d2 S
  obtain ⟨c0, d0, d1, d2, S⟩ := hHeld
  go_wp2_with fail
  go_ret2
  exact ⟨rfl, S.bel⟩

set_option maxHeartbeats 2000000 in
theorem spec_day_C (R y m d : Int) (O : Hid (OldB y m d false)) (P : Hid (NewB y m d false)) (w : World) :
    Calls Try.prog 90 #[.agg #[.int .i64 R], .agg #[.int .i64 y, .int .i64 m, .int .i64 d]] w (NB 0 false w) := by
  go_enter Try.func90, Try.ntmps90
  have S := ((St.start w).alloc 35 #[.int .i64 R]).alloc 25 #[.int .i64 y, .int .i64 m, .int .i64 d]
  simp only [World.size_alloc] at S
  have c0 := S.b1.cell 0
  simp only [List.getElem?_toArray, List.getElem?_cons_zero] at c0
  obtain ⟨d0, d1, d2⟩ := S.b0.three
  go_wp2_with fail
  refine wp_region_held_drew (S := (fun w' => w'.cell? ⟨w.heap.size, 0, none⟩ = some (.int .i64 R) ∧ w'.cell? ⟨w.heap.size + 1, 0, none⟩ = some (.int .i64 y) ∧ w'.cell? ⟨w.heap.size + 1, 1, none⟩ = some (.int .i64 m) ∧ w'.cell? ⟨w.heap.size + 1, 2, none⟩ = some (.int .i64 d) ∧ St [(w.heap.size + 1, 25, #[.int .i64 y, .int .i64 m, .int .i64 d]), (w.heap.size, 35, #[.int .i64 R])] w w')) (by kernel_rfl) ?_ (fun hHeld => ?_)
  · (exact ⟨c0, d0, d1, d2, S.drewN 1⟩)
  refine wpAnyH_take (i := 0) (oi := ⟨some 6, _, _, _, _, _⟩) (v := _) rfl (by kernel_rfl) (by kernel_rfl) (by kernel_rfl) (fun _ _ _ h => h) (Or.inl ⟨by kernel_rfl, by (intro wS hSw; (try dsimp only at hSw); go_split_ands; go_simp; (try with_reducible rfl))⟩) (by assumption) ?_
  try simp only [Act.put, List.setIfInBounds_toArray, List.set_cons_zero, List.set_cons_succ]
  refine wpAnyH_ready (rs := [1]) (by kernel_rfl) (by simp) ?_
  refine AllReadyH.cons (o := ⟨some 7, _, _, _, _, _⟩) rfl (fun K hK => ?_) AllReadyH.nil
  go_simp
  refine (O.out _).mono ?_
  rintro e wq ⟨rfl, hbq⟩
  go_wp2_with fail
  refine hK.out _ _ ?_ (fun hHeld => ?_)
  · (go_split_ands; exact keep2 (by assumption) hbq (by simp) (by simp))
  clear hK K
  try simp only [Act.put, List.setIfInBounds_toArray, List.set_cons_zero, List.set_cons_succ]
  refine wpAnyH_take (i := 2) (oi := ⟨some 8, _, _, _, _, _⟩) (v := _) rfl (by kernel_rfl) (by kernel_rfl) (by kernel_rfl) (fun _ _ _ h => h) (Or.inl ⟨by kernel_rfl, by (intro wS hSw; (try dsimp only at hSw); go_split_ands; go_simp; (try with_reducible rfl))⟩) (by assumption) ?_
  try simp only [Act.put, List.setIfInBounds_toArray, List.set_cons_zero, List.set_cons_succ]
  refine wpAnyH_take (i := 3) (oi := ⟨some 9, _, _, _, _, _⟩) (v := undef) rfl (by kernel_rfl) (by kernel_rfl) (by kernel_rfl) (fun _ _ _ h => h) (Or.inr ⟨by kernel_rfl, rfl⟩) (by assumption) ?_
  try simp only [Act.put, List.setIfInBounds_toArray, List.set_cons_zero, List.set_cons_succ]
  refine wpAnyH_take (i := 4) (oi := ⟨some 10, _, _, _, _, _⟩) (v := undef) rfl (by kernel_rfl) (by kernel_rfl) (by kernel_rfl) (fun _ _ _ h => h) (Or.inr ⟨by kernel_rfl, rfl⟩) (by assumption) ?_
  try simp only [Act.put, List.setIfInBounds_toArray, List.set_cons_zero, List.set_cons_succ]
  refine wpAnyH_take (i := 5) (oi := ⟨some 11, _, _, _, _, _⟩) (v := undef) rfl (by kernel_rfl) (by kernel_rfl) (by kernel_rfl) (fun _ _ _ h => h) (Or.inr ⟨by kernel_rfl, rfl⟩) (by assumption) ?_
  try simp only [Act.put, List.setIfInBounds_toArray, List.set_cons_zero, List.set_cons_succ]
  refine wpAnyH_take (i := 6) (oi := ⟨some 12, _, _, _, _, _⟩) (v := undef) rfl (by kernel_rfl) (by kernel_rfl) (by kernel_rfl) (fun _ _ _ h => h) (Or.inr ⟨by kernel_rfl, rfl⟩) (by assumption) ?_
  try simp only [Act.put, List.setIfInBounds_toArray, List.set_cons_zero, List.set_cons_succ]
  refine wpAnyH_take (i := 7) (oi := ⟨some 13, _, _, _, _, _⟩) (v := undef) rfl (by kernel_rfl) (by kernel_rfl) (by kernel_rfl) (fun _ _ _ h => h) (Or.inr ⟨by kernel_rfl, rfl⟩) (by assumption) ?_
  try simp only [Act.put, List.setIfInBounds_toArray, List.set_cons_zero, List.set_cons_succ]
  refine wpAnyH_take (i := 8) (oi := ⟨some 14, _, _, _, _, _⟩) (v := _) rfl (by kernel_rfl) (by kernel_rfl) (by kernel_rfl) (fun _ _ _ h => h) (Or.inl ⟨by kernel_rfl, by (intro wS hSw; (try dsimp only at hSw); go_split_ands; go_simp; (try with_reducible rfl))⟩) (by assumption) ?_
  try simp only [Act.put, List.setIfInBounds_toArray, List.set_cons_zero, List.set_cons_succ]
  refine wpAnyH_done (by kernel_rfl) ?_ _
  clear c0 d0 d1 d2 S
  obtain ⟨c0, d0, d1, d2, S⟩ := hHeld
  go_wp2_with fail
  refine wp_region_held_drew (S := (fun w' => w'.cell? ⟨w.heap.size, 0, none⟩ = some (.int .i64 R) ∧ w'.cell? ⟨w.heap.size + 1, 0, none⟩ = some (.int .i64 y) ∧ w'.cell? ⟨w.heap.size + 1, 1, none⟩ = some (.int .i64 m) ∧ w'.cell? ⟨w.heap.size + 1, 2, none⟩ = some (.int .i64 d) ∧ St [(w.heap.size + 1, 25, #[.int .i64 y, .int .i64 m, .int .i64 d]), (w.heap.size, 35, #[.int .i64 R])] w w')) (by kernel_rfl) ?_ (fun hHeld => ?_)
  · (exact ⟨c0, d0, d1, d2, S.drewN 1⟩)
  refine wpAnyH_take (i := 0) (oi := ⟨some 17, _, _, _, _, _⟩) (v := _) rfl (by kernel_rfl) (by kernel_rfl) (by kernel_rfl) (fun _ _ _ h => h) (Or.inl ⟨by kernel_rfl, by (intro wS hSw; (try dsimp only at hSw); go_split_ands; go_simp; (try with_reducible rfl))⟩) (by assumption) ?_
  try simp only [Act.put, List.setIfInBounds_toArray, List.set_cons_zero, List.set_cons_succ]
  refine wpAnyH_ready (rs := [1]) (by kernel_rfl) (by simp) ?_
  refine AllReadyH.cons (o := ⟨some 18, _, _, _, _, _⟩) rfl (fun K hK => ?_) AllReadyH.nil
  go_simp
  refine (P.out _).mono ?_
  rintro e wq ⟨rfl, hbq⟩
  go_wp2_with fail
  refine hK.out _ _ ?_ (fun hHeld => ?_)
  · (go_split_ands; exact keep2 (by assumption) hbq (by simp) (by simp))
  clear hK K
  try simp only [Act.put, List.setIfInBounds_toArray, List.set_cons_zero, List.set_cons_succ]
  refine wpAnyH_take (i := 2) (oi := ⟨some 19, _, _, _, _, _⟩) (v := _) rfl (by kernel_rfl) (by kernel_rfl) (by kernel_rfl) (fun _ _ _ h => h) (Or.inl ⟨by kernel_rfl, by (intro wS hSw; (try dsimp only at hSw); go_split_ands; go_simp; (try with_reducible rfl))⟩) (by assumption) ?_
  try simp only [Act.put, List.setIfInBounds_toArray, List.set_cons_zero, List.set_cons_succ]
  refine wpAnyH_take (i := 3) (oi := ⟨some 20, _, _, _, _, _⟩) (v := undef) rfl (by kernel_rfl) (by kernel_rfl) (by kernel_rfl) (fun _ _ _ h => h) (Or.inr ⟨by kernel_rfl, rfl⟩) (by assumption) ?_
  try simp only [Act.put, List.setIfInBounds_toArray, List.set_cons_zero, List.set_cons_succ]
  refine wpAnyH_take (i := 4) (oi := ⟨some 21, _, _, _, _, _⟩) (v := undef) rfl (by kernel_rfl) (by kernel_rfl) (by kernel_rfl) (fun _ _ _ h => h) (Or.inr ⟨by kernel_rfl, rfl⟩) (by assumption) ?_
  try simp only [Act.put, List.setIfInBounds_toArray, List.set_cons_zero, List.set_cons_succ]
  refine wpAnyH_take (i := 5) (oi := ⟨some 22, _, _, _, _, _⟩) (v := undef) rfl (by kernel_rfl) (by kernel_rfl) (by kernel_rfl) (fun _ _ _ h => h) (Or.inr ⟨by kernel_rfl, rfl⟩) (by assumption) ?_
  try simp only [Act.put, List.setIfInBounds_toArray, List.set_cons_zero, List.set_cons_succ]
  refine wpAnyH_take (i := 6) (oi := ⟨some 23, _, _, _, _, _⟩) (v := undef) rfl (by kernel_rfl) (by kernel_rfl) (by kernel_rfl) (fun _ _ _ h => h) (Or.inr ⟨by kernel_rfl, rfl⟩) (by assumption) ?_
  try simp only [Act.put, List.setIfInBounds_toArray, List.set_cons_zero, List.set_cons_succ]
  refine wpAnyH_take (i := 7) (oi := ⟨some 24, _, _, _, _, _⟩) (v := undef) rfl (by kernel_rfl) (by kernel_rfl) (by kernel_rfl) (fun _ _ _ h => h) (Or.inr ⟨by kernel_rfl, rfl⟩) (by assumption) ?_
  try simp only [Act.put, List.setIfInBounds_toArray, List.set_cons_zero, List.set_cons_succ]
  refine wpAnyH_take (i := 8) (oi := ⟨some 25, _, _, _, _, _⟩) (v := _) rfl (by kernel_rfl) (by kernel_rfl) (by kernel_rfl) (fun _ _ _ h => h) (Or.inl ⟨by kernel_rfl, by (intro wS hSw; (try dsimp only at hSw); go_split_ands; go_simp; (try with_reducible rfl))⟩) (by assumption) ?_
  try simp only [Act.put, List.setIfInBounds_toArray, List.set_cons_zero, List.set_cons_succ]
  refine wpAnyH_done (by kernel_rfl) ?_ _
  clear c0 d0 d1 d2 S
  obtain ⟨c0, d0, d1, d2, S⟩ := hHeld
  go_wp2_with fail
  go_ret2
  exact ⟨rfl, S.bel⟩

theorem spec_day_ (R y m d : Int) (w : World) : Calls Try.prog 90 #[.agg #[.int .i64 R], .agg #[.int .i64 y, .int .i64 m, .int .i64 d]] w (NB (Loc.lnum R y m d) (decide (Loc.isL R y m d)) w) := by
  have hnum : ∀ f, Cal.valid f y m d → Num y m d f (Cal.num f y m d) := fun f hv w => by
    have dm := (Cal.mlen_bd f y m).2
    obtain ⟨y1, y2, m1, m2, d1, d2⟩ := hv
    exact spec_number f y m d y1 (by omega) m1 (by omega) (by omega) (by omega) w
  have hold : OldB y m d (vb false y m d) := fun w => spec_IsOldDate y m d w
  have hnew : NewB y m d (vb true y m d) := fun w => spec_IsNewDate y m d w
  by_cases hv : Cal.valid false y m d
  · rw [vb_true hv] at hold
    by_cases hlt : Cal.num false y m d < R
    · refine (spec_day_A R y m d (Lib.hid hold) _ (Lib.hid (hnum false hv)) hlt w).mono fun e w' k => nb_eq k ?_ ?_
      · unfold Loc.lnum
        rw [if_pos ⟨hv, hlt⟩]
      · exact (decide_eq_true (show Loc.isL R y m d from .inl ⟨hv, hlt⟩)).symm
    · have hge : R ≤ Cal.num false y m d := by omega
      have n1 : ¬ (Cal.valid false y m d ∧ Cal.num false y m d < R) := fun h => hlt h.2
      by_cases hv2 : Cal.valid true y m d
      · rw [vb_true hv2] at hnew
        by_cases hge2 : R ≤ Cal.num true y m d
        · refine (spec_day_B1 R y m d (Lib.hid hold) _ (Lib.hid (hnum false hv)) hge (Lib.hid hnew) _ (Lib.hid (hnum true hv2)) hge2 w).mono fun e w' k => nb_eq k ?_ ?_
          · unfold Loc.lnum
            rw [if_neg n1, if_pos ⟨hv2, hge2⟩]
          · exact (decide_eq_true (show Loc.isL R y m d from .inr ⟨hv2, hge2⟩)).symm
        · refine (spec_day_B2 R y m d (Lib.hid hold) _ (Lib.hid (hnum false hv)) hge (Lib.hid hnew) _ (Lib.hid (hnum true hv2)) (by omega) w).mono fun e w' k => nb_eq k ?_ ?_
          · unfold Loc.lnum
            rw [if_neg n1, if_neg (fun h => hge2 h.2)]
          · exact (decide_eq_false (show ¬ Loc.isL R y m d from fun h => h.elim n1 (fun h => hge2 h.2))).symm
      · rw [vb_false hv2] at hnew
        refine (spec_day_B3 R y m d (Lib.hid hold) _ (Lib.hid (hnum false hv)) hge (Lib.hid hnew) w).mono fun e w' k => nb_eq k ?_ ?_
        · unfold Loc.lnum
          rw [if_neg n1, if_neg (fun h => hv2 h.1)]
        · exact (decide_eq_false (show ¬ Loc.isL R y m d from fun h => h.elim n1 (fun h => hv2 h.1))).symm
  · have hv2 : ¬ Cal.valid true y m d := fun h => hv (Loc.old_of_new h)
    rw [vb_false hv] at hold
    rw [vb_false hv2] at hnew
    refine (spec_day_C R y m d (Lib.hid hold) (Lib.hid hnew) w).mono fun e w' k => nb_eq k ?_ ?_
    · unfold Loc.lnum
      rw [if_neg (fun h => hv h.1), if_neg (fun h => hv2 h.1)]
    · exact (decide_eq_false (show ¬ Loc.isL R y m d from fun h => h.elim (fun h => hv h.1) (fun h => hv2 h.1))).symm

end Go.Proofs.Ytkmkfpglnmpnmaa.Plc
