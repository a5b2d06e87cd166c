/- Contracts of spec's draws of a place and a year, and of a date and years. -/
import Derived.Test.YtegoiiconhgjbaaEasD
import Derived.Test.YtegoiiconhgjbaaPlcH
import Derived.Test.YtegoiiconhgjbaaSt
namespace Go.Proofs.Ytegoiiconhgjbaa.Eas
open Go.RowKit
open Go.Proofs.Ytegoiiconhgjbaa.Plc

theorem only_below' {a w : World} {g : Nat} (h : a.grownBy w (some g)) (hg : a.heap.size + 1 ≤ g) : Below a.heap.size a w := only_below h (by omega) (Nat.le_refl _)

set_option maxHeartbeats 2000000 in
theorem spec_DrawYearsWithEaster (A : Option Addr) (len cap : Nat) (zs : List Int) (W w : World) (hrow : IsRow .u8 W A len cap zs) (hW : Below W.heap.size W w) :
    Calls Try.prog 24 #[.slice A len cap] w (DrawnYs w) := by
  go_enter Try.func24, Try.ntmps24
  go_wp2_with fail
  refine (spec_from A len cap zs W _ hrow hW).mono ?_
  rintro e w1 ⟨g, rfl, hg, s1, hb⟩
  have k1 : w.grownBy w1 (some g) := only_of_below hb _
  clear hb
  go_wp2_with fail
  refine (spec_drawYear A len cap zs W _ g s1).mono ?_
  rintro e w2 ⟨f, rfl, hf, s2, k⟩
  have k2 := k1.trans k
  have HF := Lib.hid hf
  obtain ⟨f1, f2⟩ := hf
  clear k s1 k1
  go_wp2_with fail
  refine (spec_next A len cap zs W _ g 20 s2).mono ?_
  rintro e w3 ⟨x, rfl, x0, x1, s3, k⟩
  have k3 := k2.trans k
  clear k s2 k2 x1
  by_cases h0 : x = 0
  · subst h0
    go_wp2_with fail
    refine (spec_pick A len cap zs W _ g _ 4 _ [0, 2, 4, 13] (fun x => 0 ≤ x ∧ x ≤ 13) (s3.alloc _) (Blk.new _ _ _) (by have := s3.lt; omega) rfl (by omega) (by omega) (by simp)).mono ?_
    rintro e w4 ⟨m, rfl, hm, s4, k⟩
    have k4 := (only_alloc k3 _).trans k
    have HM := Lib.hid hm
    clear k s3 k3 hm
    go_wp2_with fail
    refine (spec_pick A len cap zs W _ g _ 4 _ [0, 29, 30, 31] (fun x => 0 ≤ x ∧ x ≤ 31) (s4.alloc _) (Blk.new _ _ _) (by have := s4.lt; omega) rfl (by omega) (by omega) (by simp)).mono ?_
    rintro e w5 ⟨d, rfl, hd, s5, k⟩
    have k5 := (only_alloc k4 _).trans k
    have HD := Lib.hid hd
    clear k s4 k4 hd
    go_wp2_with fail
    refine (spec_pick A len cap zs W _ g _ 4 _ [-1, 0, 600, 601] (fun x => -1 ≤ x ∧ x ≤ 601) (s5.alloc _) (Blk.new _ _ _) (by have := s5.lt; omega) rfl (by omega) (by omega) (by simp)).mono ?_
    rintro e w6 ⟨t, rfl, ht, s6, k⟩
    have k6 := (only_alloc k5 _).trans k
    obtain ⟨t1, t2⟩ := ht
    clear k s5 k5
    go_wp2_with fail
    refine bodyPost_ret (v := .tuple #[.int .i64 m, .int .i64 d, .int .i64 f, .int .i64 (f + t)]) (by simp [results, Try.results24, go_sem]) rfl ⟨m, d, f, f + t, rfl, HM.out, HD.out, HF.out, ⟨by omega, by omega⟩, only_below k6 hg (Nat.le_refl _)⟩
  · have e0 : (x == 0) = false := by simpa using h0
    clear h0
    go_wp2_with fail
    refine (spec_next A len cap zs W _ g 2 s3).mono ?_
    rintro e w4 ⟨m, rfl, m0, m1, s4, k⟩
    have m2 : m < 2 := by omega
    have k4 := k3.trans k
    clear k s3 k3 m1
    go_wp2_with fail
    refine (spec_next A len cap zs W _ g 30 s4).mono ?_
    rintro e w5 ⟨d, rfl, d0, d1, s5, k⟩
    have d2 : d < 30 := by omega
    have k5 := k4.trans k
    clear k s4 k4 d1
    go_wp2_with fail
    refine (spec_next A len cap zs W _ g 300 s5).mono ?_
    rintro e w6 ⟨t, rfl, t0, t1, s6, k⟩
    have t2 : t < 300 := by omega
    have k6 := k5.trans k
    clear k s5 k5 t1
    go_wp2_with fail
    refine bodyPost_ret (v := .tuple #[.int .i64 (3 + m), .int .i64 (1 + d), .int .i64 f, .int .i64 (f + t)]) (by simp [results, Try.results24, go_sem]) rfl ⟨3 + m, 1 + d, f, f + t, rfl, ⟨by omega, by omega⟩, ⟨by omega, by omega⟩, HF.out, ⟨by omega, by omega⟩, only_below k6 hg (Nat.le_refl _)⟩

end Go.Proofs.Ytegoiiconhgjbaa.Eas
