/- The walks of the laws on the date of a day. -/
import Derived.Test.YtkmkfpglnmpnmaaDoorLawA
namespace Go.Proofs.YtkmkfpglnmpnmaaDoor
open Go.RowKit

/-- What spec's search for a date leaves, with the refusal of the callers. -/
theorem dateIs_of {f : Bool} {n y m d : Int} (h1 : Cal.ys f 1 ≤ n) (h2 : n < Cal.ys f 2001 → Cal.valid f y m d) (h3 : Cal.num f y m d = n) (h : n < Cal.ys f 2001) : DateIs f n y m d 0 :=
  .inl ⟨h1, h, rfl, h2 h, h3⟩

set_option maxHeartbeats 400000 in
theorem spec_NewDate_no1 (n : Int) (hv : ¬ (2 ≤ n ∧ n ≤ 730499)) (w : World) : Calls Tryd.prog 11 #[.int .i64 n] w (DateRet true n w) := by
  have h2 := inB_false hv
  have HV := Lib.hid (show DateIs true n 0 0 0 2 from .inr ⟨by rw [Cal.ys_1, Cal.ys_2001]; simp; omega, rfl, rfl, rfl, rfl⟩)
  clear hv
  go_enter Tryd.func11, Tryd.ntmps11
  go_wp2_with fail
  refine (spec_in n 2 730499 _).mono ?_
  rintro e w1 ⟨rfl, rfl⟩
  go_wp2_with fail
  refine bodyPost_ret (v := .tuple #[.agg #[.int .i64 0, .int .i64 0, .int .i64 0], .int .i64 2]) (by simp [results, Tryd.results11, go_sem]) rfl ⟨0, 0, 0, 2, rfl, HV.out, ?_⟩
  exact (Below.refl _ _).alloc (Nat.le_refl _) _

set_option maxHeartbeats 400000 in
theorem spec_NewDate_no2 (n : Int) (n0 : 2 ≤ n) (n1 : n ≤ 730499) (h : Cal.ys true 2001 ≤ n) (w : World) : Calls Tryd.prog 11 #[.int .i64 n] w (DateRet true n w) := by
  have h2 := inB_true (And.intro n0 n1)
  have e1 : Cal.ys true 1 ≤ n := by rw [Cal.ys_1]; simpa using n0
  have HV := Lib.hid (show DateIs true n 0 0 0 2 from .inr ⟨.inr h, rfl, rfl, rfl, rfl⟩)
  go_enter Tryd.func11, Tryd.ntmps11
  go_wp2_with fail
  refine (spec_in n 2 730499 _).mono ?_
  rintro e w1 ⟨rfl, rfl⟩
  go_wp2_with fail
  refine (spec_date true n e1 n1 _).mono ?_
  rintro e w1 ⟨y, m, d, rfl, hv, hn, hnum, hb⟩
  have hvb := vb_false (hn h)
  clear hv hn hnum
  have q1 := (Blk.new w _ _).below hb (by simp)
  go_wp2_with fail
  refine (spec_valid true y m d _).mono ?_
  rintro e w2 ⟨rfl, hb2⟩
  have q2 := q1.below hb2 q1.lt
  obtain ⟨c0, c1, c2⟩ := q2.three
  have z0 := q2.frozen 0
  have z1 := q2.frozen 1
  have z2 := q2.frozen 2
  go_wp2_with fail
  refine bodyPost_ret (v := .tuple #[.agg #[.int .i64 0, .int .i64 0, .int .i64 0], .int .i64 2]) (by simp [results, Tryd.results11, go_sem, c0, c1, c2]) rfl ⟨0, 0, 0, 2, rfl, HV.out, ?_⟩
  have zz := hb.size
  simp at zz
  exact ((((((Below.refl _ _).alloc (Nat.le_refl _) _).trans (hb.mono (by simp))).trans (hb2.mono (by omega))).setCell (Nat.le_refl _) _).setCell (Nat.le_refl _) _).setCell (Nat.le_refl _) _

set_option maxHeartbeats 400000 in
theorem spec_NewDate_yes (n : Int) (n0 : 2 ≤ n) (n1 : n ≤ 730499) (h : n < Cal.ys true 2001) (w : World) : Calls Tryd.prog 11 #[.int .i64 n] w (DateRet true n w) := by
  have h2 := inB_true (And.intro n0 n1)
  have e1 : Cal.ys true 1 ≤ n := by rw [Cal.ys_1]; simpa using n0
  go_enter Tryd.func11, Tryd.ntmps11
  go_wp2_with fail
  refine (spec_in n 2 730499 _).mono ?_
  rintro e w1 ⟨rfl, rfl⟩
  go_wp2_with fail
  refine (spec_date true n e1 n1 _).mono ?_
  rintro e w1 ⟨y, m, d, rfl, hv, hn, hnum, hb⟩
  have hvb := vb_true (hv h)
  clear hv hn hnum
  have q1 := (Blk.new w _ _).below hb (by simp)
  go_wp2_with fail
  refine (spec_valid true y m d _).mono ?_
  rintro e w2 ⟨rfl, hb2⟩
  have q2 := q1.below hb2 q1.lt
  go_wp2_with fail
  refine (spec_date true n e1 n1 _).mono ?_
  rintro e w3 ⟨y, m, d, rfl, hv, hn, hnum, hb3⟩
  have HV := Lib.hid (dateIs_of e1 hv hnum h)
  clear hv hn hnum
  have q3 := q2.below hb3 q2.lt
  obtain ⟨c0, c1, c2⟩ := q3.three
  have z0 := q3.frozen 0
  have z1 := q3.frozen 1
  have z2 := q3.frozen 2
  go_wp2_with fail
  refine bodyPost_ret (v := .tuple #[.agg #[.int .i64 y, .int .i64 m, .int .i64 d], .int .i64 0]) (by simp [results, Tryd.results11, go_sem, c0, c1, c2]) rfl ⟨y, m, d, 0, rfl, HV.out, ?_⟩
  have zz := hb.size
  have zy := hb2.size
  simp at zz
  exact (((((((Below.refl _ _).alloc (Nat.le_refl _) _).trans (hb.mono (by simp))).trans (hb2.mono (by omega))).trans (hb3.mono (by omega))).setCell (Nat.le_refl _) _).setCell (Nat.le_refl _) _).setCell (Nat.le_refl _) _

theorem spec_NewDate (n : Int) (w : World) : Calls Tryd.prog 11 #[.int .i64 n] w (DateRet true n w) := by
  by_cases hv : 2 ≤ n ∧ n ≤ 730499
  · by_cases h : n < Cal.ys true 2001
    · exact spec_NewDate_yes n hv.1 hv.2 h w
    · exact spec_NewDate_no2 n hv.1 hv.2 (by omega) w
  · exact spec_NewDate_no1 n hv w

end Go.Proofs.YtkmkfpglnmpnmaaDoor
