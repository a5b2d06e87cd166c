/- Contracts of impl's small functions of feasts: what is a feast, a relation, how far a weekday is, and the twenty rules. -/
import Derived.Test.YtegoiiconhgjbaaFeaC
import Derived.Test.YtegoiiconhgjbaaFeaJ
namespace Go.Proofs.Ytegoiiconhgjbaa.Fea
open Go.RowKit
open Go.Proofs.Ytegoiiconhgjbaa.Eas (isY It oE oM oD oE_bd impl_oldDayOf)

theorem impl_feast_yes (f : Int) (h : isF f) (w : World) : Calls Try.prog 89 #[.int .i64 f] w fun e w' => e = .returned (.bool true) ∧ w = w' := by
  obtain ⟨h0, h1⟩ := h
  have h2 : f < 20 := by omega
  go_enter Try.func89, Try.ntmps89
  go_wp2
  go_ret
  exact ⟨rfl, rfl⟩

theorem impl_feast_no (f : Int) (h : ¬ isF f) (w : World) : Calls Try.prog 89 #[.int .i64 f] w fun e w' => e = .returned (.bool false) ∧ w = w' := by
  by_cases h0 : 0 ≤ f
  · have h2 : decide (f < 20) = false := by unfold isF at h; simp; omega
    clear h
    go_enter Try.func89, Try.ntmps89
    go_wp2
    go_ret
    exact ⟨rfl, rfl⟩
  · have h2 : decide (0 ≤ f) = false := by simpa using h0
    clear h
    go_enter Try.func89, Try.ntmps89
    go_wp2
    go_ret
    exact ⟨rfl, rfl⟩

theorem rel_lo (r k : Int) (b : Bool) (hr : r = 0 ∨ r = 1 ∨ r = 2) (h : (k == 0) = b) (w : World) : Calls Try.prog 90 #[.int .i64 r, .int .i64 k] w fun e w' => e = .returned (.bool b) ∧ w = w' := by
  subst h
  rcases hr with rfl | rfl | rfl
  · go_enter Try.func90, Try.ntmps90
    go_wp2
    go_ret
    exact ⟨rfl, rfl⟩
  · go_enter Try.func90, Try.ntmps90
    go_wp2
    go_ret
    exact ⟨rfl, rfl⟩
  · go_enter Try.func90, Try.ntmps90
    go_wp2
    go_ret
    exact ⟨rfl, rfl⟩

theorem rel_hi (r k : Int) (hr : r = 3 ∨ r = 4) (h0 : 0 ≤ k) (h1 : k ≤ 6) (w : World) : Calls Try.prog 90 #[.int .i64 r, .int .i64 k] w fun e w' => e = .returned (.bool true) ∧ w = w' := by
  rcases hr with rfl | rfl
  · go_enter Try.func90, Try.ntmps90
    go_wp2
    go_ret
    exact ⟨rfl, rfl⟩
  · go_enter Try.func90, Try.ntmps90
    go_wp2
    go_ret
    exact ⟨rfl, rfl⟩

theorem rel_hi1 (r k : Int) (hr : r = 3 ∨ r = 4) (h0 : 0 ≤ k) (h1 : decide (k ≤ 6) = false) (w : World) : Calls Try.prog 90 #[.int .i64 r, .int .i64 k] w fun e w' => e = .returned (.bool false) ∧ w = w' := by
  rcases hr with rfl | rfl
  · go_enter Try.func90, Try.ntmps90
    go_wp2
    go_ret
    exact ⟨rfl, rfl⟩
  · go_enter Try.func90, Try.ntmps90
    go_wp2
    go_ret
    exact ⟨rfl, rfl⟩

theorem rel_hi0 (r k : Int) (hr : r = 3 ∨ r = 4) (h0 : decide (0 ≤ k) = false) (w : World) : Calls Try.prog 90 #[.int .i64 r, .int .i64 k] w fun e w' => e = .returned (.bool false) ∧ w = w' := by
  rcases hr with rfl | rfl
  · go_enter Try.func90, Try.ntmps90
    go_wp2
    go_ret
    exact ⟨rfl, rfl⟩
  · go_enter Try.func90, Try.ntmps90
    go_wp2
    go_ret
    exact ⟨rfl, rfl⟩

theorem rel_none (r k : Int) (h0 : (r == 0) = false) (h1 : (r == 1) = false) (h2 : (r == 2) = false) (h3 : (r == 3) = false) (h4 : (r == 4) = false) (w : World) : Calls Try.prog 90 #[.int .i64 r, .int .i64 k] w fun e w' => e = .returned (.bool false) ∧ w = w' := by
  go_enter Try.func90, Try.ntmps90
  go_wp2
  go_ret
  exact ⟨rfl, rfl⟩

theorem impl_relation_yes (r k : Int) (h : isR r k) (w : World) : Calls Try.prog 90 #[.int .i64 r, .int .i64 k] w fun e w' => e = .returned (.bool true) ∧ w = w' := by
  obtain ⟨a, b, c, d, e⟩ := h
  by_cases h3 : 3 ≤ r
  · exact rel_hi r k (by omega) c d w
  · exact rel_lo r k true (by omega) (by simpa using e.resolve_left h3) w

theorem impl_relation_no (r k : Int) (h : ¬ isR r k) (w : World) : Calls Try.prog 90 #[.int .i64 r, .int .i64 k] w fun e w' => e = .returned (.bool false) ∧ w = w' := by
  unfold isR at h
  by_cases hr : r = 0 ∨ r = 1 ∨ r = 2
  · exact rel_lo r k false hr (by simp; omega) w
  · by_cases hr2 : r = 3 ∨ r = 4
    · by_cases h0 : 0 ≤ k
      · exact rel_hi1 r k hr2 h0 (by simp; omega) w
      · exact rel_hi0 r k hr2 (by simpa using h0) w
    · exact rel_none r k (by simp; omega) (by simp; omega) (by simp; omega) (by simp; omega) (by simp; omega) w

theorem impl_until (a b : Int) (ha : 0 ≤ a) (ha2 : a ≤ 6) (hb : 0 ≤ b) (hb2 : b ≤ 6) (w : World) : Calls Try.prog 123 #[.int .i64 a, .int .i64 b] w fun e w' => e = .returned (.int .i64 ((b - a + 6) % 7 + 1)) ∧ w = w' := by
  go_enter Try.func123, Try.ntmps123
  by_cases h : 0 ≤ b - a + 6
  · go_wp2
    go_ret
    exact ⟨rfl, rfl⟩
  · omega

set_option maxHeartbeats 1000000 in
theorem impl_relNum (n r k x : Int) (n0 : 0 ≤ n) (n1 : n ≤ 730499) (h : isR r k) (hx : rd r k n = x) (w : World) : Calls Try.prog 91 #[.int .i64 n, .int .i64 r, .int .i64 k] w (It x w) := by
  have W := Lib.hid (fun w => by
    have q := impl_WeekdayOf n w
    rw [show wkNum n = (n + 5) % 7 from if_pos ⟨n0, n1⟩, show wkErr n = 0 from if_pos ⟨n0, n1⟩] at q
    exact q)
  obtain ⟨a, b, c, d, e⟩ := h
  have u0 : 0 ≤ (n + 5) % 7 := by omega
  have u1 : (n + 5) % 7 ≤ 6 := by omega
  have hr : (r = 0 ∧ n = x) ∨ (r = 1 ∧ n - 1 = x) ∨ (r = 2 ∧ n + 7 = x) ∨ (r = 3 ∧ n + ((k - (n + 5) % 7 + 6) % 7 + 1) = x) ∨ (r = 4 ∧ n - (((n + 5) % 7 - k + 6) % 7 + 1) = x) := by
    have : r = 0 ∨ r = 1 ∨ r = 2 ∨ r = 3 ∨ r = 4 := by omega
    rcases this with rfl | rfl | rfl | rfl | rfl
    · exact .inl ⟨rfl, hx⟩
    · exact .inr (.inl ⟨rfl, hx⟩)
    · exact .inr (.inr (.inl ⟨rfl, hx⟩))
    · refine .inr (.inr (.inr (.inl ⟨rfl, ?_⟩)))
      have h : n + 1 + (k + 14 - (n + 6) % 7) % 7 = x := hx
      omega
    · refine .inr (.inr (.inr (.inr ⟨rfl, ?_⟩)))
      have h : n - 1 - ((n + 11) % 7 + 7 - k) % 7 = x := hx
      omega
  clear hx e
  generalize (n + 5) % 7 = u at W u0 u1 hr
  rcases hr with ⟨rfl, hx⟩ | ⟨rfl, hx⟩ | ⟨rfl, hx⟩ | ⟨rfl, hx⟩ | ⟨rfl, hx⟩
  · have HX := Lib.hid hx
    clear hx
    go_enter Try.func91, Try.ntmps91
    go_wp2_with fail
    refine (W.out _).mono ?_
    rintro e w1 ⟨rfl, hb⟩
    go_wp2_with fail
    go_ret
    exact ⟨ret_int HX.out, hb⟩
  · have HX := Lib.hid hx
    clear hx
    go_enter Try.func91, Try.ntmps91
    go_wp2_with fail
    refine (W.out _).mono ?_
    rintro e w1 ⟨rfl, hb⟩
    go_wp2_with fail
    go_ret
    exact ⟨ret_int HX.out, hb⟩
  · have HX := Lib.hid hx
    clear hx
    go_enter Try.func91, Try.ntmps91
    go_wp2_with fail
    refine (W.out _).mono ?_
    rintro e w1 ⟨rfl, hb⟩
    go_wp2_with fail
    go_ret
    exact ⟨ret_int HX.out, hb⟩
  · have U := Lib.hid (impl_until u k u0 u1 c d)
    have v0 : 0 ≤ (k - u + 6) % 7 + 1 := by omega
    have v1 : (k - u + 6) % 7 + 1 ≤ 7 := by omega
    generalize (k - u + 6) % 7 + 1 = v at U hx v0 v1
    have HX := Lib.hid hx
    clear hx
    go_enter Try.func91, Try.ntmps91
    go_wp2_with fail
    refine (W.out _).mono ?_
    rintro e w1 ⟨rfl, hb⟩
    go_wp2_with fail
    refine (U.out _).mono ?_
    rintro e w2 ⟨rfl, rfl⟩
    go_wp2_with fail
    go_ret
    exact ⟨ret_int HX.out, hb⟩
  · have U := Lib.hid (impl_until k u c d u0 u1)
    have v0 : 0 ≤ (u - k + 6) % 7 + 1 := by omega
    have v1 : (u - k + 6) % 7 + 1 ≤ 7 := by omega
    generalize (u - k + 6) % 7 + 1 = v at U hx v0 v1
    have HX := Lib.hid hx
    clear hx
    go_enter Try.func91, Try.ntmps91
    go_wp2_with fail
    refine (W.out _).mono ?_
    rintro e w1 ⟨rfl, hb⟩
    go_wp2_with fail
    refine (U.out _).mono ?_
    rintro e w2 ⟨rfl, rfl⟩
    go_wp2_with fail
    go_ret
    exact ⟨ret_int HX.out, hb⟩

theorem impl_dateYr (n : Int) (h : isDay n) (w : World) : Calls Try.prog 85 #[.int .i64 0, .int .i64 n] w fun e w' => ∃ m d : Int, e = .returned (.tuple #[.agg #[.int .i64 (yr n), .int .i64 m, .int .i64 d], .int .i64 0]) ∧ Below w.heap.size w w' := by
  refine (impl_dateOf false n w).mono fun e w' q => ?_
  obtain ⟨y, m, d, c, he, hd, hb⟩ := q
  rcases hd with ⟨-, -, rfl, hv, hn⟩ | ⟨h2, -⟩
  · rw [yr_num hv hn]
    exact ⟨m, d, he, hb⟩
  · exfalso
    rw [Cal.ys_1, Cal.ys_2001] at h2
    obtain ⟨h0, h1⟩ := h
    simp at h2
    omega
theorem impl_dateNo (n : Int) (h : ¬ isDay n) (w : World) : Calls Try.prog 85 #[.int .i64 0, .int .i64 n] w fun e w' => ∃ y m d : Int, e = .returned (.tuple #[.agg #[.int .i64 y, .int .i64 m, .int .i64 d], .int .i64 2]) ∧ Below w.heap.size w w' := by
  refine (impl_dateOf false n w).mono fun e w' q => ?_
  obtain ⟨y, m, d, c, he, hd, hb⟩ := q
  rcases hd with ⟨h1, h2, -⟩ | ⟨h2, rfl, rfl, rfl, rfl⟩
  · exfalso
    rw [Cal.ys_1] at h1
    rw [Cal.ys_2001] at h2
    unfold isDay at h
    simp at h1 h2
    omega
  · exact ⟨_, _, _, he, hb⟩

end Go.Proofs.Ytegoiiconhgjbaa.Fea
