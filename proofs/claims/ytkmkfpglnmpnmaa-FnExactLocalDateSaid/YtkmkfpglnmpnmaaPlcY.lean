/- Contracts of impl's DaysOfYear and SkippedDates. -/
import Derived.Test.YtkmkfpglnmpnmaaPlcD
namespace Go.Proofs.Ytkmkfpglnmpnmaa.Plc
open Go.RowKit

def It (a : Int) (w : World) (e : Ending) (w' : World) : Prop := e = .returned (.int .i64 a) ∧ Below w.heap.size w w'
theorem it_eq {a a' : Int} {w w' : World} {e : Ending} (h : It a w e w') (h1 : a = a') : It a' w e w' := by subst h1; exact h

set_option maxHeartbeats 1000000 in
theorem impl_unref_len (y : Int) (h1 : 1 ≤ y) (h2 : y ≤ 2000) (w : World) :
    Calls Try.prog 130 #[.agg #[], .int .i64 y] w (It (Cal.ys false (y + 1) - Cal.ys false y) w) := by
  have b1 := Cal.ys_bd false y h1 (by omega)
  have b2 := Cal.ys_bd false (y + 1) (by omega) (by omega)
  go_enter Try.func130, Try.ntmps130
  go_wp2_with (go_at_call 102; refine (impl_ys false _ (by omega) (by omega) _).mono ?_; rintro e w' ⟨rfl, rfl⟩)
  go_ret
  exact ⟨rfl, (Below.refl _ _).alloc (Nat.le_refl _) _⟩

set_option maxHeartbeats 4000000 in
theorem impl_ref_len (R y : Int) (hR : 0 ≤ R ∧ R ≤ 1000000) (h1 : 1 ≤ y) (h2 : y ≤ 2000) (w : World) :
    Calls Try.prog 127 #[.agg #[.int .i64 R], .int .i64 y] w (It (Loc.ylen R y) w) := by
  have b1 := Cal.ys_bd false y h1 (by omega)
  have b2 := Cal.ys_bd false (y + 1) (by omega) (by omega)
  have b3 := Cal.ys_bd true y h1 (by omega)
  have b4 := Cal.ys_bd true (y + 1) (by omega) (by omega)
  have HY := Lib.hid (show min (Cal.ys false (y + 1)) R - min (Cal.ys false y) R + (max (Cal.ys true (y + 1)) R - max (Cal.ys true y) R) = Loc.ylen R y from rfl)
  have A1 := Lib.hid (show ∀ w, Calls Try.prog 102 #[.int .i64 0, .int .i64 y] w fun e w' => e = .returned (.int .i64 (Cal.ys false y)) ∧ w = w' from impl_ys false y h1 (by omega))
  have A2 := Lib.hid (show ∀ w, Calls Try.prog 102 #[.int .i64 0, .int .i64 (y + 1)] w fun e w' => e = .returned (.int .i64 (Cal.ys false (y + 1))) ∧ w = w' from impl_ys false (y + 1) (by omega) (by omega))
  have A3 := Lib.hid (show ∀ w, Calls Try.prog 102 #[.int .i64 1, .int .i64 y] w fun e w' => e = .returned (.int .i64 (Cal.ys true y)) ∧ w = w' from impl_ys true y h1 (by omega))
  have A4 := Lib.hid (show ∀ w, Calls Try.prog 102 #[.int .i64 1, .int .i64 (y + 1)] w fun e w' => e = .returned (.int .i64 (Cal.ys true (y + 1))) ∧ w = w' from impl_ys true (y + 1) (by omega) (by omega))
  have wy0 : IntKind.i64.wrap (y + 1) = y + 1 := by rw [IntKind.wrap_i64]; omega
  obtain ⟨z, hz⟩ : ∃ z, y + 1 = z := ⟨_, rfl⟩
  rw [hz] at b2 b4 HY A2 A4 wy0
  have wy := wy0
  clear wy0
  generalize Cal.ys false y = o at *
  generalize Cal.ys false z = o' at *
  generalize Cal.ys true y = p at *
  generalize Cal.ys true z = p' at *
  obtain ⟨a1, m1⟩ : ∃ a, (if R < o' then R else o') = a := ⟨_, rfl⟩
  obtain ⟨a2, m2⟩ : ∃ a, (if R < o then R else o) = a := ⟨_, rfl⟩
  obtain ⟨a3, m3⟩ : ∃ a, (if p' < R then R else p') = a := ⟨_, rfl⟩
  obtain ⟨a4, m4⟩ : ∃ a, (if p < R then R else p) = a := ⟨_, rfl⟩
  have E : a1 - a2 + (a3 - a4) = Loc.ylen R y := by
    rw [← HY.out, ← m1, ← m2, ← m3, ← m4]
    omega
  have B1 : 0 ≤ a1 ∧ a1 ≤ 1000000 := by rw [← m1]; split <;> omega
  have B2 : 0 ≤ a2 ∧ a2 ≤ 1000000 := by rw [← m2]; split <;> omega
  have B3 : 0 ≤ a3 ∧ a3 ≤ 1000000 := by rw [← m3]; split <;> omega
  have B4 : 0 ≤ a4 ∧ a4 ≤ 1000000 := by rw [← m4]; split <;> omega
  have W1 : IntKind.i64.wrap (a1 - a2) = a1 - a2 := IntWalk.i64_in _ ⟨by omega, by omega⟩
  have W2 : IntKind.i64.wrap (a3 - a4) = a3 - a4 := IntWalk.i64_in _ ⟨by omega, by omega⟩
  clear HY
  have HE := Lib.hid E
  clear E
  go_enter Try.func127, Try.ntmps127
  have S := (St.start w).alloc 90 #[.int .i64 R]
  have r0 : (w.alloc (.cells #[.int .i64 R] 90)).cell? ⟨w.heap.size, 0, none⟩ = some (.int .i64 R) := S.b0.cell 0
  go_wp2_with fail
  go_region_held3 (fun w' => w'.cell? ⟨w.heap.size, 0, none⟩ = some (.int .i64 R) ∧ Below w.heap.size w w')
    (first | exact ⟨r0, S.bel.drew⟩ | (go_split_ands; exact ⟨by assumption, by assumption⟩))
    (first | (go_at_call_of 102 (Value.int .i64 z); refine (A2.out _).mono ?_; rintro e wq ⟨rfl, rfl⟩) | (go_at_call_of 102 (Value.int .i64 y); refine (A1.out _).mono ?_; rintro e wq ⟨rfl, rfl⟩))
  all_goals
    go_wp2_with fail
    go_region_held3 (fun w' => w'.cell? ⟨w.heap.size, 0, none⟩ = some (.int .i64 R) ∧ Below w.heap.size w w')
      (first | exact ⟨r0, S.bel.drew.drew⟩ | (go_split_ands; exact ⟨by assumption, by assumption⟩))
      (first | (go_at_call_of 102 (Value.int .i64 z); refine (A4.out _).mono ?_; rintro e wq ⟨rfl, rfl⟩) | (go_at_call_of 102 (Value.int .i64 y); refine (A3.out _).mono ?_; rintro e wq ⟨rfl, rfl⟩))
    all_goals
      go_wp2_with fail
      go_ret
      exact ⟨ret_int HE.out, S.bel.drew.drew⟩

set_option maxHeartbeats 1000000 in
theorem impl_DaysOfYear_old (y : Int) (hc : icB 730500 = true) (h1 : 1 ≤ y) (h2 : y ≤ 2000) (w : World) :
    Calls Try.prog 49 #[.agg #[.int .i64 730500], .int .i64 y] w (Two (Cal.ys false (y + 1) - Cal.ys false y) 0 w) := by
  have C1 := Lib.hid (impl_isCal 730500)
  rw [hc] at C1
  have CL := Lib.hid (impl_local_old)
  have CN := Lib.hid (impl_unref_len y h1 h2)
  have Y := Lib.hid (impl_year_yes y h1 h2)
  clear hc
  go_enter Try.func49, Try.ntmps49
  go_wp2_with fail
  refine (C1.out _).mono ?_
  rintro e w1 ⟨rfl, hb⟩
  have S := ((St.start w).alloc 35 #[.int .i64 730500]).call hb
  have r0 := S.b0.cell 0
  simp at r0
  go_wp2_with fail
  refine (Y.out _).mono ?_
  rintro e w2 ⟨rfl, rfl⟩
  go_wp2_with fail
  refine (CL.out _).mono ?_
  rintro e w3 ⟨rfl, hb3⟩
  have S := S.call hb3
  go_wp2_with fail
  refine (CN.out _).mono ?_
  rintro e w4 ⟨rfl, hb4⟩
  have S := S.call hb4
  go_wp2_with fail
  go_ret2
  exact ⟨rfl, S.bel⟩

set_option maxHeartbeats 1000000 in
theorem impl_DaysOfYear_new (R : Int) (hR : R ≠ 730500) (hb : 0 ≤ R ∧ R ≤ 1000000) (y : Int) (hc : icB R = true) (h1 : 1 ≤ y) (h2 : y ≤ 2000) (w : World) :
    Calls Try.prog 49 #[.agg #[.int .i64 R], .int .i64 y] w (Two (Loc.ylen R y) 0 w) := by
  have C1 := Lib.hid (impl_isCal R)
  rw [hc] at C1
  have CL := Lib.hid (impl_local_new R hR)
  have CN := Lib.hid (impl_ref_len R y hb h1 h2)
  have Y := Lib.hid (impl_year_yes y h1 h2)
  clear hc hR hb
  go_enter Try.func49, Try.ntmps49
  go_wp2_with fail
  refine (C1.out _).mono ?_
  rintro e w1 ⟨rfl, hb⟩
  have S := ((St.start w).alloc 35 #[.int .i64 R]).call hb
  have r0 := S.b0.cell 0
  simp at r0
  go_wp2_with fail
  refine (Y.out _).mono ?_
  rintro e w2 ⟨rfl, rfl⟩
  go_wp2_with fail
  refine (CL.out _).mono ?_
  rintro e w3 ⟨rfl, hb3⟩
  have S := S.call hb3
  go_wp2_with fail
  refine (CN.out _).mono ?_
  rintro e w4 ⟨rfl, hb4⟩
  have S := S.call hb4
  go_wp2_with fail
  go_ret2
  exact ⟨rfl, S.bel⟩

set_option maxHeartbeats 400000 in
theorem impl_DaysOfYear_no1 (R y : Int) (hc : icB R = false) (w : World) :
    Calls Try.prog 49 #[.agg #[.int .i64 R], .int .i64 y] w (Two 0 1 w) := by
  have C1 := Lib.hid (impl_isCal R)
  rw [hc] at C1
  clear hc
  go_enter Try.func49, Try.ntmps49
  go_wp2_with fail
  refine (C1.out _).mono ?_
  rintro e w1 ⟨rfl, hb⟩
  have S := ((St.start w).alloc 35 #[.int .i64 R]).call hb
  go_wp2_with fail
  go_ret2
  exact ⟨rfl, S.bel⟩

set_option maxHeartbeats 400000 in
theorem impl_DaysOfYear_no2 (R y : Int) (hc : icB R = true) (hy : ¬ (1 ≤ y ∧ y ≤ 2000)) (w : World) :
    Calls Try.prog 49 #[.agg #[.int .i64 R], .int .i64 y] w (Two 0 2 w) := by
  have C1 := Lib.hid (impl_isCal R)
  rw [hc] at C1
  have Y := Lib.hid (impl_year_no y hy)
  clear hc hy
  go_enter Try.func49, Try.ntmps49
  go_wp2_with fail
  refine (C1.out _).mono ?_
  rintro e w1 ⟨rfl, hb⟩
  have S := ((St.start w).alloc 35 #[.int .i64 R]).call hb
  go_wp2_with fail
  refine (Y.out _).mono ?_
  rintro e w2 ⟨rfl, rfl⟩
  go_wp2_with fail
  go_ret2
  exact ⟨rfl, S.bel⟩

theorem impl_DaysOfYear (R y : Int) (w : World) :
    Calls Try.prog 49 #[.agg #[.int .i64 R], .int .i64 y] w (Two (Loc.yNum R y) (Loc.yErr R y) w) := by
  by_cases hc : icB R = true
  · have hcal : Loc.isCal R := of_decide_eq_true hc
    have hbd := Loc.isCal_bd hcal
    by_cases hy : 1 ≤ y ∧ y ≤ 2000
    · have h : Loc.isCal R ∧ 1 ≤ y ∧ y ≤ 2000 := ⟨hcal, hy⟩
      have e1 : Loc.ylen R y = Loc.yNum R y := by unfold Loc.yNum; rw [if_pos h]
      have e2 : 0 = Loc.yErr R y := by unfold Loc.yErr; rw [if_pos hcal, if_pos hy]
      by_cases hR : R = 730500
      · subst hR
        exact (impl_DaysOfYear_old y hc hy.1 hy.2 w).mono fun e w' k => two_eq k ((Loc.ylen_old y hy.1 hy.2).symm.trans e1) e2
      · exact (impl_DaysOfYear_new R hR ⟨by omega, by omega⟩ y hc hy.1 hy.2 w).mono fun e w' k => two_eq k e1 e2
    · exact (impl_DaysOfYear_no2 R y hc hy w).mono fun e w' k => two_eq k (by unfold Loc.yNum; rw [if_neg (fun h => hy h.2)]) (by unfold Loc.yErr; rw [if_pos hcal, if_neg hy])
  · have hcal : ¬ Loc.isCal R := fun h => hc (decide_eq_true h)
    exact (impl_DaysOfYear_no1 R y (by simpa using hc) w).mono fun e w' k => two_eq k (by unfold Loc.yNum; rw [if_neg (fun h => hcal h.1)]) (by unfold Loc.yErr; rw [if_neg hcal])

set_option maxHeartbeats 1000000 in
theorem impl_skipped (R : Int) (h0 : 200000 ≤ R) (h1 : R ≤ 730486) (w : World) :
    Calls Try.prog 92 #[.agg #[.int .i64 R]] w fun e w' => ∃ y m d, Cal.valid true y m d ∧ Cal.num true y m d = R ∧ e = .returned (.int .i64 (Cal.num false y m d - R)) ∧ Below w.heap.size w w' := by
  have b2 : Cal.ys true 1 = 2 := rfl
  have b4 : Cal.ys true 2001 = 730487 := by decide
  go_enter Try.func92, Try.ntmps92
  have S := (St.start w).alloc 90 #[.int .i64 R]
  go_wp2_with fail
  refine (impl_dateOf true R _).mono ?_
  rintro e w1 ⟨y, m, d, c, rfl, hd, hb⟩
  rcases hd with ⟨k1, k2, rfl, hv, hu⟩ | ⟨k, _⟩
  · have S := (S.call hb).alloc 25 #[.int .i64 y, .int .i64 m, .int .i64 d]
    have hz := hb.size
    simp at hz
    have hvo := Loc.old_of_new hv
    have hn := Cal.num_range false hvo
    have y1 : Cal.ys false 1 = 0 := rfl
    have y2 : Cal.ys false 2001 = 730500 := by decide
    rw [y1, y2] at hn
    have C := Lib.hid (impl_dayOf false y m d)
    rw [show dayNum false y m d = Cal.num false y m d from if_pos hvo, show dayErr false y m d = 0 from if_pos hvo] at C
    have HV := Lib.hid (And.intro hv hu)
    clear hv hu hvo k1 k2
    generalize hN : Cal.num false y m d = N at *
    go_wp2_with fail
    refine (C.out _).mono ?_
    rintro e w2 ⟨rfl, hb2⟩
    have S := S.call hb2
    have r0 := S.b1.cell 0
    simp at r0
    go_wp2_with fail
    go_ret
    exact ⟨y, m, d, HV.out.1, HV.out.2, (by rw [hN]; rfl), S.bel⟩
  · omega

theorem ta_new (R : Int) (w : World) : Sem.run Try.prog (Instr.typeAssert (.iface 90 (.agg #[.int .i64 R])) 80 90 true) w = .ok (.tuple #[.agg #[.int .i64 R], .bool true]) w := by kernel_rfl
theorem ta_old (w : World) : Sem.run Try.prog (Instr.typeAssert (.iface 106 (.agg #[])) 80 90 true) w = .ok (.tuple #[.agg #[.int .i64 0], .bool false]) w := by kernel_rfl

def SkRet (R : Int) (w : World) (e : Ending) (w' : World) : Prop := ∃ s c : Int, e = .returned (.tuple #[.int .i64 s, .int .i64 c]) ∧ Loc.SkIs R s c ∧ Below w.heap.size w w'

set_option maxHeartbeats 1000000 in
theorem impl_SkippedDates_no (R : Int) (hc : icB R = false) (w : World) :
    Calls Try.prog 46 #[.agg #[.int .i64 R]] w (SkRet R w) := by
  have C1 := Lib.hid (impl_isCal R)
  rw [hc] at C1
  have HH := Lib.hid (show Loc.SkIs R 0 1 from .inl ⟨of_decide_eq_false hc, rfl, rfl⟩)
  clear hc
  go_enter Try.func46, Try.ntmps46
  go_wp2_with fail
  refine (C1.out _).mono ?_
  rintro e w1 ⟨rfl, hb⟩
  have S := ((St.start w).alloc 35 #[.int .i64 R]).call hb
  go_wp2_with fail
  go_ret2
  exact ⟨0, 1, rfl, HH.out, S.bel⟩

set_option maxHeartbeats 1000000 in
theorem impl_SkippedDates_old (hc : icB 730500 = true) (w : World) :
    Calls Try.prog 46 #[.agg #[.int .i64 730500]] w (SkRet 730500 w) := by
  have C1 := Lib.hid (impl_isCal 730500)
  rw [hc] at C1
  have CL := Lib.hid impl_local_old
  have TA := ta_old
  have HH := Lib.hid (show Loc.SkIs 730500 0 4 from .inr (.inl ⟨rfl, rfl, rfl⟩))
  clear hc
  go_enter Try.func46, Try.ntmps46
  go_wp2_with fail
  refine (C1.out _).mono ?_
  rintro e w1 ⟨rfl, hb⟩
  have S := ((St.start w).alloc 35 #[.int .i64 730500]).call hb
  have r0 := S.b0.cell 0
  simp at r0
  go_wp2_with fail
  refine (CL.out _).mono ?_
  rintro e w3 ⟨rfl, hb3⟩
  have S := S.call hb3
  go_wp2_with fail
  go_ret2
  exact ⟨0, 4, rfl, HH.out, S.bel⟩

set_option maxHeartbeats 1000000 in
theorem impl_SkippedDates_new (R : Int) (h0 : 200000 ≤ R) (h1 : R ≤ 730486) (w : World) :
    Calls Try.prog 46 #[.agg #[.int .i64 R]] w (SkRet R w) := by
  have C1 := Lib.hid (impl_isCal R)
  rw [show icB R = true from decide_eq_true (.inl ⟨h0, h1⟩)] at C1
  have CL := Lib.hid (impl_local_new R (by omega))
  have CN := Lib.hid (impl_skipped R h0 h1)
  have HR := Lib.hid (And.intro h0 h1)
  have TA := ta_new R
  clear h0 h1
  go_enter Try.func46, Try.ntmps46
  go_wp2_with fail
  refine (C1.out _).mono ?_
  rintro e w1 ⟨rfl, hb⟩
  have S := ((St.start w).alloc 35 #[.int .i64 R]).call hb
  have r0 := S.b0.cell 0
  simp at r0
  go_wp2_with fail
  refine (CL.out _).mono ?_
  rintro e w3 ⟨rfl, hb3⟩
  have S := (S.call hb3).alloc 90 #[.int .i64 R]
  go_wp2_with fail
  refine (CN.out _).mono ?_
  rintro e w4 ⟨y, m, d, hv, hn, rfl, hb4⟩
  have S := S.call hb4
  have HH := Lib.hid (show Loc.SkIs R (Cal.num false y m d - R) 0 from .inr (.inr ⟨HR.out.1, HR.out.2, rfl, y, m, d, hv, hn, rfl⟩))
  clear hv hn HR
  generalize Cal.num false y m d - R = s at HH ⊢
  go_wp2_with fail
  go_ret2
  exact ⟨s, 0, rfl, HH.out, S.bel⟩

theorem impl_SkippedDates (R : Int) (w : World) : Calls Try.prog 46 #[.agg #[.int .i64 R]] w (SkRet R w) := by
  by_cases hc : icB R = true
  · by_cases hR : R = 730500
    · subst hR
      exact impl_SkippedDates_old hc w
    · have hcal : Loc.isCal R := of_decide_eq_true hc
      have h := hcal.resolve_right hR
      exact impl_SkippedDates_new R h.1 h.2 w
  · exact impl_SkippedDates_no R (by simpa using hc) w

end Go.Proofs.Ytkmkfpglnmpnmaa.Plc
