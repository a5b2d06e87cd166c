/- Contracts of impl's LocalDay and IsLocal. -/
import Derived.Test.YtkmkfpglnmpnmaaPlcI
namespace Go.Proofs.Ytkmkfpglnmpnmaa.Plc
open Go.RowKit

theorem on {W w w' : World} (h : Below W.heap.size W w) (hb : Below w.heap.size w w') : Below W.heap.size W w' := h.trans (hb.mono h.size)
/-- What a call leaves that answers a bool and a code. -/
def IB (a : Bool) (b : Int) (w : World) (e : Ending) (w' : World) : Prop := e = .returned (.tuple #[.bool a, .int .i64 b]) ∧ Below w.heap.size w w'
theorem two_eq {a a' b b' : Int} {w w' : World} {e : Ending} (h : Two a b w e w') (h1 : a = a') (h2 : b = b') : Two a' b' w e w' := by subst h1 h2; exact h
theorem ib_eq {a a' : Bool} {b b' : Int} {w w' : World} {e : Ending} (h : IB a b w e w') (h1 : a = a') (h2 : b = b') : IB a' b' w e w' := by subst h1 h2; exact h

theorem old_eq {y m d : Int} (hv : dB y m d = true) : dayNum false y m d = Loc.lnum 730500 y m d ∧ dayErr false y m d = lOk 730500 y m d := by
  have hd : Cal.valid false y m d := (Loc.isD_iff y m d).1 (of_decide_eq_true hv)
  have hr := (Cal.num_range false hd).2
  rw [Cal.ys_2001] at hr
  simp at hr
  constructor
  · unfold dayNum Loc.lnum
    rw [if_pos hd, if_pos ⟨hd, hr⟩]
  · unfold dayErr lOk
    rw [if_pos hd, if_pos (show Loc.isL 730500 y m d from Or.inl ⟨hd, hr⟩)]

theorem impl_old_number (y m d : Int) (hv : dB y m d = true) (w : World) :
    Calls Try.prog 129 #[.agg #[], .agg #[.int .i64 y, .int .i64 m, .int .i64 d]] w (Two (Loc.lnum 730500 y m d) (lOk 730500 y m d) w) := by
  have h := impl_unref_number y m d w
  rw [(old_eq hv).1, (old_eq hv).2] at h
  exact h

set_option maxHeartbeats 1000000 in
theorem impl_LocalDay_old (y m d : Int) (hc : icB 730500 = true) (hv : dB y m d = true) (w : World) :
    Calls Try.prog 39 #[.agg #[.int .i64 730500], .agg #[.int .i64 y, .int .i64 m, .int .i64 d]] w (Two (Loc.lnum 730500 y m d) (lOk 730500 y m d) w) := by
  have CL := Lib.hid (impl_local_old)
  have CN := Lib.hid (impl_old_number y m d hv)
  generalize Loc.lnum 730500 y m d = N at CN ⊢
  generalize lOk 730500 y m d = C at CN ⊢
  have C1 := Lib.hid (impl_isCal 730500)
  have C2 := Lib.hid (impl_isValid y m d)
  rw [hc] at C1
  rw [hv] at C2
  clear hc hv
  go_enter Try.func39, Try.ntmps39
  go_wp2_with fail
  refine (C1.out _).mono ?_
  rintro e w1 ⟨rfl, hb⟩
  have q0 := ((Blk.new w 35 #[.int .i64 730500]).alloc (.cells #[.int .i64 y, .int .i64 m, .int .i64 d] 25)).below hb (by simp; try omega)
  have q1 := (Blk.new (w.alloc (.cells #[.int .i64 730500] 35)) 25 #[.int .i64 y, .int .i64 m, .int .i64 d]).below hb (by simp; try omega)
  have bel := (((Below.refl w.heap.size w).alloc (Nat.le_refl _) (.cells #[.int .i64 730500] 35)).alloc (by simp) (.cells #[.int .i64 y, .int .i64 m, .int .i64 d] 25)).trans (hb.mono (by simp; omega))
  simp only [World.size_alloc] at q1
  obtain ⟨d0, d1, d2⟩ := q1.three
  go_wp2_with fail
  refine (C2.out _).mono ?_
  rintro e w2 ⟨rfl, hb2⟩
  clear d0 d1 d2
  have q0 := q0.below hb2 q0.lt
  have q1 := q1.below hb2 q1.lt
  have bel := on bel hb2
  have c0 := q0.cell 0
  simp at c0
  obtain ⟨d0, d1, d2⟩ := q1.three
  go_wp2_with fail
  go_region_with (first
    | (go_at_call 85; refine (CL.out _).mono ?_; rintro e w3 ⟨rfl, hb3⟩; have q4 := q1.drew.below hb3 q1.lt; obtain ⟨g0, g1, g2⟩ := q4.three)
    | (go_at_call 129; refine (CN.out _).mono ?_; rintro e w4 ⟨rfl, hb4⟩))
  all_goals
    go_wp2_with fail
    go_ret2
    exact ⟨rfl, on (on bel.drew hb3) hb4⟩

set_option maxHeartbeats 1000000 in
theorem impl_LocalDay_new (R : Int) (hR : R ≠ 730500) (y m d : Int) (hc : icB R = true) (hv : dB y m d = true) (w : World) :
    Calls Try.prog 39 #[.agg #[.int .i64 R], .agg #[.int .i64 y, .int .i64 m, .int .i64 d]] w (Two (Loc.lnum R y m d) (lOk R y m d) w) := by
  have CL := Lib.hid (impl_local_new R hR)
  have CN := Lib.hid (impl_ref_number R y m d)
  generalize Loc.lnum R y m d = N at CN ⊢
  generalize lOk R y m d = C at CN ⊢
  have C1 := Lib.hid (impl_isCal R)
  have C2 := Lib.hid (impl_isValid y m d)
  rw [hc] at C1
  rw [hv] at C2
  clear hc hv
  go_enter Try.func39, Try.ntmps39
  go_wp2_with fail
  refine (C1.out _).mono ?_
  rintro e w1 ⟨rfl, hb⟩
  have q0 := ((Blk.new w 35 #[.int .i64 R]).alloc (.cells #[.int .i64 y, .int .i64 m, .int .i64 d] 25)).below hb (by simp; try omega)
  have q1 := (Blk.new (w.alloc (.cells #[.int .i64 R] 35)) 25 #[.int .i64 y, .int .i64 m, .int .i64 d]).below hb (by simp; try omega)
  have bel := (((Below.refl w.heap.size w).alloc (Nat.le_refl _) (.cells #[.int .i64 R] 35)).alloc (by simp) (.cells #[.int .i64 y, .int .i64 m, .int .i64 d] 25)).trans (hb.mono (by simp; omega))
  simp only [World.size_alloc] at q1
  obtain ⟨d0, d1, d2⟩ := q1.three
  go_wp2_with fail
  refine (C2.out _).mono ?_
  rintro e w2 ⟨rfl, hb2⟩
  clear d0 d1 d2
  have q0 := q0.below hb2 q0.lt
  have q1 := q1.below hb2 q1.lt
  have bel := on bel hb2
  have c0 := q0.cell 0
  simp at c0
  obtain ⟨d0, d1, d2⟩ := q1.three
  go_wp2_with fail
  go_region_with (first
    | (go_at_call 85; refine (CL.out _).mono ?_; rintro e w3 ⟨rfl, hb3⟩; have q4 := q1.drew.below hb3 q1.lt; obtain ⟨g0, g1, g2⟩ := q4.three)
    | (go_at_call 126; refine (CN.out _).mono ?_; rintro e w4 ⟨rfl, hb4⟩))
  all_goals
    go_wp2_with fail
    go_ret2
    exact ⟨rfl, on (on bel.drew hb3) hb4⟩

set_option maxHeartbeats 400000 in
theorem impl_LocalDay_no1 (R y m d : Int) (hc : icB R = false) (w : World) :
    Calls Try.prog 39 #[.agg #[.int .i64 R], .agg #[.int .i64 y, .int .i64 m, .int .i64 d]] w (Two 0 1 w) := by
  have C1 := Lib.hid (impl_isCal R)
  rw [hc] at C1
  clear hc
  go_enter Try.func39, Try.ntmps39
  go_wp2_with fail
  refine (C1.out _).mono ?_
  rintro e w1 ⟨rfl, hb⟩
  go_wp2_with fail
  go_ret2
  exact ⟨rfl, (((Below.refl w.heap.size w).alloc (Nat.le_refl _) (.cells #[.int .i64 R] 35)).alloc (by simp) (.cells #[.int .i64 y, .int .i64 m, .int .i64 d] 25)).trans (hb.mono (by simp; omega))⟩

set_option maxHeartbeats 400000 in
theorem impl_LocalDay_no2 (R y m d : Int) (hc : icB R = true) (hv : dB y m d = false) (w : World) :
    Calls Try.prog 39 #[.agg #[.int .i64 R], .agg #[.int .i64 y, .int .i64 m, .int .i64 d]] w (Two 0 1 w) := by
  have C1 := Lib.hid (impl_isCal R)
  have C2 := Lib.hid (impl_isValid y m d)
  rw [hc] at C1
  rw [hv] at C2
  clear hc hv
  go_enter Try.func39, Try.ntmps39
  go_wp2_with fail
  refine (C1.out _).mono ?_
  rintro e w1 ⟨rfl, hb⟩
  have q0 := ((Blk.new w 35 #[.int .i64 R]).alloc (.cells #[.int .i64 y, .int .i64 m, .int .i64 d] 25)).below hb (by simp; try omega)
  have q1 := (Blk.new (w.alloc (.cells #[.int .i64 R] 35)) 25 #[.int .i64 y, .int .i64 m, .int .i64 d]).below hb (by simp; try omega)
  have bel := (((Below.refl w.heap.size w).alloc (Nat.le_refl _) (.cells #[.int .i64 R] 35)).alloc (by simp) (.cells #[.int .i64 y, .int .i64 m, .int .i64 d] 25)).trans (hb.mono (by simp; omega))
  simp only [World.size_alloc] at q1
  obtain ⟨d0, d1, d2⟩ := q1.three
  go_wp2_with fail
  refine (C2.out _).mono ?_
  rintro e w2 ⟨rfl, hb2⟩
  go_wp2_with fail
  go_ret2
  exact ⟨rfl, on bel hb2⟩

theorem impl_LocalDay (R y m d : Int) (w : World) :
    Calls Try.prog 39 #[.agg #[.int .i64 R], .agg #[.int .i64 y, .int .i64 m, .int .i64 d]] w (Two (Loc.dNum R y m d) (Loc.dErr R y m d) w) := by
  by_cases hc : icB R = true
  · by_cases hv : dB y m d = true
    · have h : Loc.isCal R ∧ Loc.isD y m d := ⟨of_decide_eq_true hc, of_decide_eq_true hv⟩
      have e1 : Loc.lnum R y m d = Loc.dNum R y m d := by unfold Loc.dNum; rw [if_pos h]
      have e2 : lOk R y m d = Loc.dErr R y m d := by unfold Loc.dErr; rw [if_pos h]; rfl
      by_cases hR : R = 730500
      · subst hR
        exact (impl_LocalDay_old y m d hc hv w).mono fun e w' h => two_eq h e1 e2
      · exact (impl_LocalDay_new R hR y m d hc hv w).mono fun e w' h => two_eq h e1 e2
    · have hv' : dB y m d = false := by simpa using hv
      have h : ¬ (Loc.isCal R ∧ Loc.isD y m d) := fun h => of_decide_eq_false hv' h.2
      exact (impl_LocalDay_no2 R y m d hc hv' w).mono fun e w' k => two_eq k (by unfold Loc.dNum; rw [if_neg h]) (by unfold Loc.dErr; rw [if_neg h])
  · have hc' : icB R = false := by simpa using hc
    have h : ¬ (Loc.isCal R ∧ Loc.isD y m d) := fun h => of_decide_eq_false hc' h.1
    exact (impl_LocalDay_no1 R y m d hc' w).mono fun e w' k => two_eq k (by unfold Loc.dNum; rw [if_neg h]) (by unfold Loc.dErr; rw [if_neg h])

set_option maxHeartbeats 1000000 in
theorem impl_IsLocal_old (y m d : Int) (hc : icB 730500 = true) (hv : dB y m d = true) (w : World) :
    Calls Try.prog 41 #[.agg #[.int .i64 730500], .agg #[.int .i64 y, .int .i64 m, .int .i64 d]] w (IB (lOk 730500 y m d == 0) 0 w) := by
  have CL := Lib.hid (impl_local_old)
  have CN := Lib.hid (impl_old_number y m d hv)
  generalize Loc.lnum 730500 y m d = N at CN
  generalize lOk 730500 y m d = C at CN ⊢
  have C1 := Lib.hid (impl_isCal 730500)
  have C2 := Lib.hid (impl_isValid y m d)
  rw [hc] at C1
  rw [hv] at C2
  clear hc hv
  go_enter Try.func41, Try.ntmps41
  go_wp2_with fail
  refine (C1.out _).mono ?_
  rintro e w1 ⟨rfl, hb⟩
  have q0 := ((Blk.new w 35 #[.int .i64 730500]).alloc (.cells #[.int .i64 y, .int .i64 m, .int .i64 d] 25)).below hb (by simp; try omega)
  have q1 := (Blk.new (w.alloc (.cells #[.int .i64 730500] 35)) 25 #[.int .i64 y, .int .i64 m, .int .i64 d]).below hb (by simp; try omega)
  have bel := (((Below.refl w.heap.size w).alloc (Nat.le_refl _) (.cells #[.int .i64 730500] 35)).alloc (by simp) (.cells #[.int .i64 y, .int .i64 m, .int .i64 d] 25)).trans (hb.mono (by simp; omega))
  simp only [World.size_alloc] at q1
  obtain ⟨d0, d1, d2⟩ := q1.three
  go_wp2_with fail
  refine (C2.out _).mono ?_
  rintro e w2 ⟨rfl, hb2⟩
  clear d0 d1 d2
  have q0 := q0.below hb2 q0.lt
  have q1 := q1.below hb2 q1.lt
  have bel := on bel hb2
  have c0 := q0.cell 0
  simp at c0
  obtain ⟨d0, d1, d2⟩ := q1.three
  go_wp2_with fail
  go_region_with (first
    | (go_at_call 85; refine (CL.out _).mono ?_; rintro e w3 ⟨rfl, hb3⟩; have q4 := q1.drew.below hb3 q1.lt; obtain ⟨g0, g1, g2⟩ := q4.three)
    | (go_at_call 129; refine (CN.out _).mono ?_; rintro e w4 ⟨rfl, hb4⟩))
  all_goals
    go_wp2_with fail
    go_ret2
    exact ⟨rfl, on (on bel.drew hb3) hb4⟩

set_option maxHeartbeats 1000000 in
theorem impl_IsLocal_new (R : Int) (hR : R ≠ 730500) (y m d : Int) (hc : icB R = true) (hv : dB y m d = true) (w : World) :
    Calls Try.prog 41 #[.agg #[.int .i64 R], .agg #[.int .i64 y, .int .i64 m, .int .i64 d]] w (IB (lOk R y m d == 0) 0 w) := by
  have CL := Lib.hid (impl_local_new R hR)
  have CN := Lib.hid (impl_ref_number R y m d)
  generalize Loc.lnum R y m d = N at CN
  generalize lOk R y m d = C at CN ⊢
  have C1 := Lib.hid (impl_isCal R)
  have C2 := Lib.hid (impl_isValid y m d)
  rw [hc] at C1
  rw [hv] at C2
  clear hc hv
  go_enter Try.func41, Try.ntmps41
  go_wp2_with fail
  refine (C1.out _).mono ?_
  rintro e w1 ⟨rfl, hb⟩
  have q0 := ((Blk.new w 35 #[.int .i64 R]).alloc (.cells #[.int .i64 y, .int .i64 m, .int .i64 d] 25)).below hb (by simp; try omega)
  have q1 := (Blk.new (w.alloc (.cells #[.int .i64 R] 35)) 25 #[.int .i64 y, .int .i64 m, .int .i64 d]).below hb (by simp; try omega)
  have bel := (((Below.refl w.heap.size w).alloc (Nat.le_refl _) (.cells #[.int .i64 R] 35)).alloc (by simp) (.cells #[.int .i64 y, .int .i64 m, .int .i64 d] 25)).trans (hb.mono (by simp; omega))
  simp only [World.size_alloc] at q1
  obtain ⟨d0, d1, d2⟩ := q1.three
  go_wp2_with fail
  refine (C2.out _).mono ?_
  rintro e w2 ⟨rfl, hb2⟩
  clear d0 d1 d2
  have q0 := q0.below hb2 q0.lt
  have q1 := q1.below hb2 q1.lt
  have bel := on bel hb2
  have c0 := q0.cell 0
  simp at c0
  obtain ⟨d0, d1, d2⟩ := q1.three
  go_wp2_with fail
  go_region_with (first
    | (go_at_call 85; refine (CL.out _).mono ?_; rintro e w3 ⟨rfl, hb3⟩; have q4 := q1.drew.below hb3 q1.lt; obtain ⟨g0, g1, g2⟩ := q4.three)
    | (go_at_call 126; refine (CN.out _).mono ?_; rintro e w4 ⟨rfl, hb4⟩))
  all_goals
    go_wp2_with fail
    go_ret2
    exact ⟨rfl, on (on bel.drew hb3) hb4⟩

set_option maxHeartbeats 400000 in
theorem impl_IsLocal_no1 (R y m d : Int) (hc : icB R = false) (w : World) :
    Calls Try.prog 41 #[.agg #[.int .i64 R], .agg #[.int .i64 y, .int .i64 m, .int .i64 d]] w (IB false 1 w) := by
  have C1 := Lib.hid (impl_isCal R)
  rw [hc] at C1
  clear hc
  go_enter Try.func41, Try.ntmps41
  go_wp2_with fail
  refine (C1.out _).mono ?_
  rintro e w1 ⟨rfl, hb⟩
  go_wp2_with fail
  go_ret2
  exact ⟨rfl, (((Below.refl w.heap.size w).alloc (Nat.le_refl _) (.cells #[.int .i64 R] 35)).alloc (by simp) (.cells #[.int .i64 y, .int .i64 m, .int .i64 d] 25)).trans (hb.mono (by simp; omega))⟩

set_option maxHeartbeats 400000 in
theorem impl_IsLocal_no2 (R y m d : Int) (hc : icB R = true) (hv : dB y m d = false) (w : World) :
    Calls Try.prog 41 #[.agg #[.int .i64 R], .agg #[.int .i64 y, .int .i64 m, .int .i64 d]] w (IB false 1 w) := by
  have C1 := Lib.hid (impl_isCal R)
  have C2 := Lib.hid (impl_isValid y m d)
  rw [hc] at C1
  rw [hv] at C2
  clear hc hv
  go_enter Try.func41, Try.ntmps41
  go_wp2_with fail
  refine (C1.out _).mono ?_
  rintro e w1 ⟨rfl, hb⟩
  have q0 := ((Blk.new w 35 #[.int .i64 R]).alloc (.cells #[.int .i64 y, .int .i64 m, .int .i64 d] 25)).below hb (by simp; try omega)
  have q1 := (Blk.new (w.alloc (.cells #[.int .i64 R] 35)) 25 #[.int .i64 y, .int .i64 m, .int .i64 d]).below hb (by simp; try omega)
  have bel := (((Below.refl w.heap.size w).alloc (Nat.le_refl _) (.cells #[.int .i64 R] 35)).alloc (by simp) (.cells #[.int .i64 y, .int .i64 m, .int .i64 d] 25)).trans (hb.mono (by simp; omega))
  simp only [World.size_alloc] at q1
  obtain ⟨d0, d1, d2⟩ := q1.three
  go_wp2_with fail
  refine (C2.out _).mono ?_
  rintro e w2 ⟨rfl, hb2⟩
  go_wp2_with fail
  go_ret2
  exact ⟨rfl, on bel hb2⟩

theorem impl_IsLocal (R y m d : Int) (w : World) :
    Calls Try.prog 41 #[.agg #[.int .i64 R], .agg #[.int .i64 y, .int .i64 m, .int .i64 d]] w (IB (Loc.lB R y m d) (Loc.lErr R y m d) w) := by
  by_cases hc : icB R = true
  · by_cases hv : dB y m d = true
    · have h : Loc.isCal R ∧ Loc.isD y m d := ⟨of_decide_eq_true hc, of_decide_eq_true hv⟩
      have e1 : (lOk R y m d == 0) = Loc.lB R y m d := by
        unfold Loc.lB lOk
        by_cases hl : Loc.isL R y m d <;> simp [hl, h]
      have e2 : 0 = Loc.lErr R y m d := by unfold Loc.lErr; rw [if_pos h]
      by_cases hR : R = 730500
      · subst hR
        exact (impl_IsLocal_old y m d hc hv w).mono fun e w' h => ib_eq h e1 e2
      · exact (impl_IsLocal_new R hR y m d hc hv w).mono fun e w' h => ib_eq h e1 e2
    · have hv' : dB y m d = false := by simpa using hv
      have h : ¬ (Loc.isCal R ∧ Loc.isD y m d) := fun h => of_decide_eq_false hv' h.2
      exact (impl_IsLocal_no2 R y m d hc hv' w).mono fun e w' k => ib_eq k (decide_eq_false (fun k => h ⟨k.1, k.2.1⟩)).symm (by unfold Loc.lErr; rw [if_neg h])
  · have hc' : icB R = false := by simpa using hc
    have h : ¬ (Loc.isCal R ∧ Loc.isD y m d) := fun h => of_decide_eq_false hc' h.1
    exact (impl_IsLocal_no1 R y m d hc' w).mono fun e w' k => ib_eq k (decide_eq_false (fun k => h ⟨k.1, k.2.1⟩)).symm (by unfold Loc.lErr; rw [if_neg h])

end Go.Proofs.Ytkmkfpglnmpnmaa.Plc
