/- The walks of the laws on whether a date is one, on the day of a date and on the weekday of a day. -/
import Derived.Test.YtkmkfpglnmpnmaaDaysE
namespace Go.Proofs.Ytkmkfpglnmpnmaa
open Go.RowKit

set_option maxHeartbeats 400000 in
theorem laws_toDate (y m d : Int) (w : World) :
    Calls Try.prog 55 #[.agg #[.int .i64 y, .int .i64 m, .int .i64 d]] w fun e w' => e = .returned (.agg #[.int .i64 y, .int .i64 m, .int .i64 d]) ∧ Below w.heap.size w w' := by
  go_enter Try.func55, Try.ntmps55
  go_wp2
  refine bodyPost_ret (v := .agg #[.int .i64 y, .int .i64 m, .int .i64 d]) (by simp [results, Try.results55, go_sem]) rfl ⟨rfl, ?_⟩
  exact ((((Below.refl _ _).alloc (Nat.le_refl _) _).alloc (by simp) _).alloc (by simp; omega) _)

set_option maxHeartbeats 400000 in
theorem laws_eqDate (y m d y' m' d' : Int) (w : World) (e1 : y = y') (e2 : m = m') (e3 : d = d') :
    Calls Try.prog 58 #[.agg #[.int .i64 y, .int .i64 m, .int .i64 d], .agg #[.int .i64 y', .int .i64 m', .int .i64 d']] w (Bl true w) := by
  subst e1 e2 e3
  go_enter Try.func58, Try.ntmps58
  go_wp2
  go_ret
  exact ⟨rfl, ((Below.refl _ _).alloc (Nat.le_refl _) _).alloc (by simp) _⟩

set_option maxHeartbeats 400000 in
theorem walk_FnExactWeekdayOf (n : Int) (_hn : (Lit.int .i64 n).wf = true) (w : World) : Calls Try.prog 12 #[.int .i64 n] w (Bl true w) := by
  go_enter Try.func12, Try.ntmps12
  go_wp2_with fail
  refine (spec_WeekdayOf n _).mono ?_
  rintro e w1 ⟨rfl, hb⟩
  go_wp2_with fail
  refine (impl_WeekdayOf n _).mono ?_
  rintro e w2 ⟨rfl, hb2⟩
  go_wp2_with fail
  go_ret
  exact ⟨rfl, hb.trans (hb2.mono hb.size)⟩

set_option maxHeartbeats 400000 in
theorem walk_FnExactIsOldDate (y m d : Int) (_f0 : (Lit.int .i64 y).wf = true) (_f1 : (Lit.int .i64 m).wf = true) (_f2 : (Lit.int .i64 d).wf = true) (w : World) :
    Calls Try.prog 6 #[.agg #[.int .i64 y, .int .i64 m, .int .i64 d]] w (Bl true w) := by
  go_enter Try.func6, Try.ntmps6
  go_wp2_with fail
  refine (laws_toDate y m d _).mono ?_
  rintro e w1 ⟨rfl, hb1⟩
  have q1 := (Blk.new w _ _).below hb1 (by simp)
  go_wp2_with fail
  refine (spec_IsOldDate y m d _).mono ?_
  rintro e w2 ⟨rfl, hb2⟩
  have q2 := q1.below hb2 q1.lt
  obtain ⟨c0, c1, c2⟩ := q2.three
  go_wp2_with fail
  refine (laws_toDate y m d _).mono ?_
  rintro e w3 ⟨rfl, hb3⟩
  go_wp2_with fail
  refine (impl_IsOldDate y m d _).mono ?_
  rintro e w4 ⟨rfl, hb4⟩
  go_wp2_with fail
  go_ret
  have z1 := hb1.size
  have z2 := hb2.size
  have z3 := hb3.size
  simp at z1
  exact ⟨rfl, (((((Below.refl _ _).alloc (Nat.le_refl _) _).trans (hb1.mono (by simp))).trans (hb2.mono (by omega))).trans (hb3.mono (by omega))).trans (hb4.mono (by omega))⟩

set_option maxHeartbeats 400000 in
theorem walk_FnExactIsNewDate (y m d : Int) (_f0 : (Lit.int .i64 y).wf = true) (_f1 : (Lit.int .i64 m).wf = true) (_f2 : (Lit.int .i64 d).wf = true) (w : World) :
    Calls Try.prog 7 #[.agg #[.int .i64 y, .int .i64 m, .int .i64 d]] w (Bl true w) := by
  go_enter Try.func7, Try.ntmps7
  go_wp2_with fail
  refine (laws_toDate y m d _).mono ?_
  rintro e w1 ⟨rfl, hb1⟩
  have q1 := (Blk.new w _ _).below hb1 (by simp)
  go_wp2_with fail
  refine (spec_IsNewDate y m d _).mono ?_
  rintro e w2 ⟨rfl, hb2⟩
  have q2 := q1.below hb2 q1.lt
  obtain ⟨c0, c1, c2⟩ := q2.three
  go_wp2_with fail
  refine (laws_toDate y m d _).mono ?_
  rintro e w3 ⟨rfl, hb3⟩
  go_wp2_with fail
  refine (impl_IsNewDate y m d _).mono ?_
  rintro e w4 ⟨rfl, hb4⟩
  go_wp2_with fail
  go_ret
  have z1 := hb1.size
  have z2 := hb2.size
  have z3 := hb3.size
  simp at z1
  exact ⟨rfl, (((((Below.refl _ _).alloc (Nat.le_refl _) _).trans (hb1.mono (by simp))).trans (hb2.mono (by omega))).trans (hb3.mono (by omega))).trans (hb4.mono (by omega))⟩

set_option maxHeartbeats 400000 in
theorem walk_FnExactOldDay (y m d : Int) (_f0 : (Lit.int .i64 y).wf = true) (_f1 : (Lit.int .i64 m).wf = true) (_f2 : (Lit.int .i64 d).wf = true) (w : World) :
    Calls Try.prog 8 #[.agg #[.int .i64 y, .int .i64 m, .int .i64 d]] w (Bl true w) := by
  go_enter Try.func8, Try.ntmps8
  go_wp2_with fail
  refine (laws_toDate y m d _).mono ?_
  rintro e w1 ⟨rfl, hb1⟩
  have q1 := (Blk.new w _ _).below hb1 (by simp)
  go_wp2_with fail
  refine (spec_OldDay y m d _).mono ?_
  rintro e w2 ⟨rfl, hb2⟩
  have q2 := q1.below hb2 q1.lt
  obtain ⟨c0, c1, c2⟩ := q2.three
  go_wp2_with fail
  refine (laws_toDate y m d _).mono ?_
  rintro e w3 ⟨rfl, hb3⟩
  go_wp2_with fail
  refine (impl_OldDay y m d _).mono ?_
  rintro e w4 ⟨rfl, hb4⟩
  go_wp2_with fail
  go_ret
  have z1 := hb1.size
  have z2 := hb2.size
  have z3 := hb3.size
  simp at z1
  exact ⟨rfl, (((((Below.refl _ _).alloc (Nat.le_refl _) _).trans (hb1.mono (by simp))).trans (hb2.mono (by omega))).trans (hb3.mono (by omega))).trans (hb4.mono (by omega))⟩

set_option maxHeartbeats 400000 in
theorem walk_FnExactNewDay (y m d : Int) (_f0 : (Lit.int .i64 y).wf = true) (_f1 : (Lit.int .i64 m).wf = true) (_f2 : (Lit.int .i64 d).wf = true) (w : World) :
    Calls Try.prog 10 #[.agg #[.int .i64 y, .int .i64 m, .int .i64 d]] w (Bl true w) := by
  go_enter Try.func10, Try.ntmps10
  go_wp2_with fail
  refine (laws_toDate y m d _).mono ?_
  rintro e w1 ⟨rfl, hb1⟩
  have q1 := (Blk.new w _ _).below hb1 (by simp)
  go_wp2_with fail
  refine (spec_NewDay y m d _).mono ?_
  rintro e w2 ⟨rfl, hb2⟩
  have q2 := q1.below hb2 q1.lt
  obtain ⟨c0, c1, c2⟩ := q2.three
  go_wp2_with fail
  refine (laws_toDate y m d _).mono ?_
  rintro e w3 ⟨rfl, hb3⟩
  go_wp2_with fail
  refine (impl_NewDay y m d _).mono ?_
  rintro e w4 ⟨rfl, hb4⟩
  go_wp2_with fail
  go_ret
  have z1 := hb1.size
  have z2 := hb2.size
  have z3 := hb3.size
  simp at z1
  exact ⟨rfl, (((((Below.refl _ _).alloc (Nat.le_refl _) _).trans (hb1.mono (by simp))).trans (hb2.mono (by omega))).trans (hb3.mono (by omega))).trans (hb4.mono (by omega))⟩

end Go.Proofs.Ytkmkfpglnmpnmaa
