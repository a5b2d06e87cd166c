/- Contracts of spec's related day. -/
import Derived.Test.YtegoiiconhgjbaaFeaB
namespace Go.Proofs.Ytegoiiconhgjbaa.Fea
open Go.RowKit
open Go.Proofs.Ytegoiiconhgjbaa.Eas (isY It)

theorem spec_relation_no1 (r k : Int) (h : ¬ (0 ≤ r ∧ r ≤ 4)) (w : World) : Calls Try.prog 94 #[.int .i64 r, .int .i64 k] w fun e w' => e = .returned (.bool false) ∧ w = w' := by
  have A1 := Lib.hid (Eas.spec_in_no r 0 4 h)
  clear h
  go_enter Try.func94, Try.ntmps94
  go_wp2_with fail
  refine (A1.out _).mono ?_
  rintro e w1 ⟨rfl, rfl⟩
  go_wp2_with fail
  go_ret
  exact ⟨rfl, rfl⟩

theorem spec_relation_no2 (r k : Int) (h : 0 ≤ r ∧ r ≤ 4) (hk : ¬ (0 ≤ k ∧ k ≤ 6)) (w : World) : Calls Try.prog 94 #[.int .i64 r, .int .i64 k] w fun e w' => e = .returned (.bool false) ∧ w = w' := by
  have A1 := Lib.hid (Eas.spec_in_yes r 0 4 h)
  have A2 := Lib.hid (Eas.spec_in_no k 0 6 hk)
  clear h hk
  go_enter Try.func94, Try.ntmps94
  go_wp2_with fail
  refine (A1.out _).mono ?_
  rintro e w1 ⟨rfl, rfl⟩
  go_wp2_with fail
  refine (A2.out _).mono ?_
  rintro e w1 ⟨rfl, rfl⟩
  go_wp2_with fail
  go_ret
  exact ⟨rfl, rfl⟩

theorem spec_relation_3 (r k : Int) (b : Bool) (h : 0 ≤ r ∧ r ≤ 4) (hk : 0 ≤ k ∧ k ≤ 6) (h3 : decide (3 ≤ r) = true ∨ (decide (3 ≤ r) = false ∧ (k == 0) = b)) (hb : decide (3 ≤ r) = true → b = true) (w : World) : Calls Try.prog 94 #[.int .i64 r, .int .i64 k] w fun e w' => e = .returned (.bool b) ∧ w = w' := by
  have A1 := Lib.hid (Eas.spec_in_yes r 0 4 h)
  have A2 := Lib.hid (Eas.spec_in_yes k 0 6 hk)
  clear h hk
  rcases h3 with h3 | ⟨h3, h4⟩
  · have := hb h3
    subst this
    have h5 : (3 : Int) ≤ r := of_decide_eq_true h3
    clear hb h3
    go_enter Try.func94, Try.ntmps94
    go_wp2_with fail
    refine (A1.out _).mono ?_
    rintro e w1 ⟨rfl, rfl⟩
    go_wp2_with fail
    refine (A2.out _).mono ?_
    rintro e w1 ⟨rfl, rfl⟩
    go_wp2_with fail
    go_ret
    exact ⟨rfl, rfl⟩
  · have h5 : ¬ (3 : Int) ≤ r := of_decide_eq_false h3
    have HB := Lib.hid h4
    clear hb h4
    go_enter Try.func94, Try.ntmps94
    go_wp2_with fail
    refine (A1.out _).mono ?_
    rintro e w1 ⟨rfl, rfl⟩
    go_wp2_with fail
    refine (A2.out _).mono ?_
    rintro e w1 ⟨rfl, rfl⟩
    go_wp2_with fail
    go_ret
    exact ⟨ret_bool HB.out, rfl⟩

theorem spec_relation_yes (r k : Int) (h : isR r k) (w : World) : Calls Try.prog 94 #[.int .i64 r, .int .i64 k] w fun e w' => e = .returned (.bool true) ∧ w = w' := by
  obtain ⟨a, b, c, d, e⟩ := h
  refine spec_relation_3 r k true ⟨a, b⟩ ⟨c, d⟩ ?_ (fun _ => rfl) w
  by_cases h3 : 3 ≤ r
  · exact .inl (by simpa using h3)
  · exact .inr ⟨by simpa using h3, by simpa using e.resolve_left h3⟩
theorem spec_relation_no (r k : Int) (h : ¬ isR r k) (w : World) : Calls Try.prog 94 #[.int .i64 r, .int .i64 k] w fun e w' => e = .returned (.bool false) ∧ w = w' := by
  by_cases h1 : 0 ≤ r ∧ r ≤ 4
  · by_cases h2 : 0 ≤ k ∧ k ≤ 6
    · have h3 : ¬ 3 ≤ r ∧ k ≠ 0 := by unfold isR at h; omega
      exact spec_relation_3 r k false h1 h2 (.inr ⟨by simpa using h3.1, by simpa using h3.2⟩) (fun e => absurd (of_decide_eq_true e) h3.1) w
    · exact spec_relation_no2 r k h1 h2 w
  · exact spec_relation_no1 r k h1 w

theorem spec_related0 (f k y n : Int) (D : ∀ w, Calls Try.prog 97 #[.int .i64 f, .int .i64 y] w (It n w)) (_n0 : 0 ≤ n) (_n1 : n ≤ 730499) (w : World) : Calls Try.prog 95 #[.int .i64 f, .int .i64 0, .int .i64 k, .int .i64 y] w (It (n) w) := by
  have D := Lib.hid D
  go_enter Try.func95, Try.ntmps95
  go_wp2_with fail
  refine (D.out _).mono ?_
  rintro e w1 ⟨rfl, hb⟩
  go_wp2_with fail
  go_ret
  exact ⟨rfl, hb⟩

theorem spec_related1 (f k y n : Int) (D : ∀ w, Calls Try.prog 97 #[.int .i64 f, .int .i64 y] w (It n w)) (n0 : 0 ≤ n) (n1 : n ≤ 730499) (w : World) : Calls Try.prog 95 #[.int .i64 f, .int .i64 1, .int .i64 k, .int .i64 y] w (It (n - 1) w) := by
  have D := Lib.hid D
  go_enter Try.func95, Try.ntmps95
  go_wp2_with fail
  refine (D.out _).mono ?_
  rintro e w1 ⟨rfl, hb⟩
  go_wp2_with fail
  go_ret
  exact ⟨rfl, hb⟩

theorem spec_related2 (f k y n : Int) (D : ∀ w, Calls Try.prog 97 #[.int .i64 f, .int .i64 y] w (It n w)) (n0 : 0 ≤ n) (n1 : n ≤ 730499) (w : World) : Calls Try.prog 95 #[.int .i64 f, .int .i64 2, .int .i64 k, .int .i64 y] w (It (n + 7) w) := by
  have D := Lib.hid D
  go_enter Try.func95, Try.ntmps95
  go_wp2_with fail
  refine (D.out _).mono ?_
  rintro e w1 ⟨rfl, hb⟩
  go_wp2_with fail
  go_ret
  exact ⟨rfl, hb⟩

set_option maxHeartbeats 1000000 in
theorem spec_related3 (f k y n x : Int) (D : ∀ w, Calls Try.prog 97 #[.int .i64 f, .int .i64 y] w (It n w)) (n0 : 0 ≤ n) (n1 : n ≤ 730499) (k0 : 0 ≤ k) (k1 : k ≤ 6) (hx : x = rd 3 k n) (w : World) : Calls Try.prog 95 #[.int .i64 f, .int .i64 3, .int .i64 k, .int .i64 y] w (It x w) := by
  have D := Lib.hid D
  have e : (n + 1 + 5) % 7 = (n + 6) % 7 := by omega
  have W := Lib.hid (fun w => e ▸ Eas.spec_weekday (n + 1) (by omega) (by omega) w)
  have u0 : 0 ≤ (n + 6) % 7 := by omega
  have u1 : (n + 6) % 7 ≤ 6 := by omega
  change x = n + 1 + (k + 14 - (n + 6) % 7) % 7 at hx
  clear e
  generalize (n + 6) % 7 = u at W u0 u1 hx
  have HX := Lib.hid hx
  clear hx
  go_enter Try.func95, Try.ntmps95
  go_wp2_with fail
  refine (D.out _).mono ?_
  rintro e w1 ⟨rfl, hb⟩
  go_wp2_with fail
  refine (W.out _).mono ?_
  rintro e w2 ⟨rfl, rfl⟩
  go_wp2_with fail
  go_ret
  exact ⟨ret_int HX.out.symm, hb⟩

set_option maxHeartbeats 1000000 in
theorem spec_related4 (f k y n x : Int) (D : ∀ w, Calls Try.prog 97 #[.int .i64 f, .int .i64 y] w (It n w)) (n0 : 0 ≤ n) (n1 : n ≤ 730499) (k0 : 0 ≤ k) (k1 : k ≤ 6) (hx : x = rd 4 k n) (w : World) : Calls Try.prog 95 #[.int .i64 f, .int .i64 4, .int .i64 k, .int .i64 y] w (It x w) := by
  have D := Lib.hid D
  have e : (n + 6 + 5) % 7 = (n + 11) % 7 := by omega
  have W := Lib.hid (fun w => e ▸ Eas.spec_weekday (n + 6) (by omega) (by omega) w)
  have u0 : 0 ≤ (n + 11) % 7 := by omega
  have u1 : (n + 11) % 7 ≤ 6 := by omega
  change x = n - 1 - ((n + 11) % 7 + 7 - k) % 7 at hx
  clear e
  generalize (n + 11) % 7 = u at W u0 u1 hx
  have HX := Lib.hid hx
  clear hx
  go_enter Try.func95, Try.ntmps95
  go_wp2_with fail
  refine (D.out _).mono ?_
  rintro e w1 ⟨rfl, hb⟩
  go_wp2_with fail
  refine (W.out _).mono ?_
  rintro e w2 ⟨rfl, rfl⟩
  go_wp2_with fail
  go_ret
  exact ⟨ret_int HX.out.symm, hb⟩

theorem spec_related (f r k y : Int) (hf : isF f) (hy : isY y) (hr : isR r k) (w : World) : Calls Try.prog 95 #[.int .i64 f, .int .i64 r, .int .i64 k, .int .i64 y] w (It (rd r k (fd f y)) w) := by
  have D := spec_day f y hf hy
  obtain ⟨n0, n1⟩ := fd_bd f y hy
  obtain ⟨a, b, c, d, -⟩ := hr
  generalize fd f y = n at *
  have h : r = 0 ∨ r = 1 ∨ r = 2 ∨ r = 3 ∨ r = 4 := by omega
  rcases h with rfl | rfl | rfl | rfl | rfl
  · exact spec_related0 f k y n D n0 n1 w
  · exact spec_related1 f k y n D n0 n1 w
  · exact spec_related2 f k y n D n0 n1 w
  · exact spec_related3 f k y n _ D n0 n1 c d rfl w
  · exact spec_related4 f k y n _ D n0 n1 c d rfl w

/-- What RelatedDay answers. -/
def relOk (f r k y : Int) : Prop := isF f ∧ isY y ∧ isR r k
instance (f r k y : Int) : Decidable (relOk f r k y) := by unfold relOk; exact inferInstance
def relN (f r k y : Int) : Int := if relOk f r k y ∧ isDay (rd r k (fd f y)) then rd r k (fd f y) else 0
def relE (f r k y : Int) : Int := if relOk f r k y then (if isDay (rd r k (fd f y)) then 0 else 4) else 2
theorem rel_out {f r k y n c : Int} (h : relN f r k y = n) (h' : relE f r k y = c) : n = relN f r k y ∧ c = relE f r k y := ⟨h.symm, h'.symm⟩

set_option maxHeartbeats 1000000 in
theorem spec_RelatedDay (f r k y : Int) (w : World) : Calls Try.prog 34 #[.int .i64 f, .int .i64 r, .int .i64 k, .int .i64 y] w (Two (relN f r k y) (relE f r k y) w) := by
  by_cases hf : isF f
  · have F := Lib.hid (spec_feast_yes f hf)
    by_cases hy : isY y
    · have Y := Lib.hid (Eas.spec_year_yes y hy)
      by_cases hr : isR r k
      · have R := Lib.hid (spec_relation_yes r k hr)
        have D := Lib.hid (spec_related f r k y hf hy hr)
        by_cases hd : isDay (rd r k (fd f y))
        · have H := Lib.hid (rel_out (if_pos ⟨⟨hf, hy, hr⟩, hd⟩) ((if_pos ⟨hf, hy, hr⟩).trans (if_pos hd)))
          generalize relN f r k y = V at *
          generalize relE f r k y = E at *
          generalize rd r k (fd f y) = n at *
          have L := Lib.hid (spec_day_yes n hd)
          clear hf hy hr hd
          go_enter Try.func34, Try.ntmps34
          go_wp2_with fail
          refine (F.out _).mono ?_
          rintro e w1 ⟨rfl, rfl⟩
          go_wp2_with fail
          refine (Y.out _).mono ?_
          rintro e w1 ⟨rfl, rfl⟩
          go_wp2_with fail
          refine (R.out _).mono ?_
          rintro e w1 ⟨rfl, rfl⟩
          go_wp2_with fail
          refine (D.out _).mono ?_
          rintro e w1 ⟨rfl, hb⟩
          go_wp2_with fail
          refine (L.out _).mono ?_
          rintro e w2 ⟨rfl, rfl⟩
          go_wp2_with fail
          go_ret2
          exact ⟨ret_ii H.out.1 H.out.2, hb⟩
        · have H := Lib.hid (rel_out (if_neg (fun h => hd h.2)) ((if_pos ⟨hf, hy, hr⟩).trans (if_neg hd)))
          generalize relN f r k y = V at *
          generalize relE f r k y = E at *
          generalize rd r k (fd f y) = n at *
          have L := Lib.hid (spec_day_no n hd)
          clear hf hy hr hd
          go_enter Try.func34, Try.ntmps34
          go_wp2_with fail
          refine (F.out _).mono ?_
          rintro e w1 ⟨rfl, rfl⟩
          go_wp2_with fail
          refine (Y.out _).mono ?_
          rintro e w1 ⟨rfl, rfl⟩
          go_wp2_with fail
          refine (R.out _).mono ?_
          rintro e w1 ⟨rfl, rfl⟩
          go_wp2_with fail
          refine (D.out _).mono ?_
          rintro e w1 ⟨rfl, hb⟩
          go_wp2_with fail
          refine (L.out _).mono ?_
          rintro e w2 ⟨rfl, rfl⟩
          go_wp2_with fail
          go_ret2
          exact ⟨ret_ii H.out.1 H.out.2, hb⟩
      · have R := Lib.hid (spec_relation_no r k hr)
        have H := Lib.hid (rel_out (f := f) (r := r) (k := k) (y := y) (if_neg (fun h => hr h.1.2.2)) (if_neg (fun h => hr h.2.2)))
        generalize relN f r k y = V at *
        generalize relE f r k y = E at *
        clear hf hy hr
        go_enter Try.func34, Try.ntmps34
        go_wp2_with fail
        refine (F.out _).mono ?_
        rintro e w1 ⟨rfl, rfl⟩
        go_wp2_with fail
        refine (Y.out _).mono ?_
        rintro e w1 ⟨rfl, rfl⟩
        go_wp2_with fail
        refine (R.out _).mono ?_
        rintro e w1 ⟨rfl, rfl⟩
        go_wp2_with fail
        go_ret2
        exact ⟨ret_ii H.out.1 H.out.2, Below.refl _ _⟩
    · have Y := Lib.hid (Eas.spec_year_no y hy)
      have H := Lib.hid (rel_out (f := f) (r := r) (k := k) (y := y) (if_neg (fun h => hy h.1.2.1)) (if_neg (fun h => hy h.2.1)))
      generalize relN f r k y = V at *
      generalize relE f r k y = E at *
      clear hf hy
      go_enter Try.func34, Try.ntmps34
      go_wp2_with fail
      refine (F.out _).mono ?_
      rintro e w1 ⟨rfl, rfl⟩
      go_wp2_with fail
      refine (Y.out _).mono ?_
      rintro e w1 ⟨rfl, rfl⟩
      go_wp2_with fail
      go_ret2
      exact ⟨ret_ii H.out.1 H.out.2, Below.refl _ _⟩
  · have F := Lib.hid (spec_feast_no f hf)
    have H := Lib.hid (rel_out (f := f) (r := r) (k := k) (y := y) (if_neg (fun h => hf h.1.1)) (if_neg (fun h => hf h.1)))
    generalize relN f r k y = V at *
    generalize relE f r k y = E at *
    clear hf
    go_enter Try.func34, Try.ntmps34
    go_wp2_with fail
    refine (F.out _).mono ?_
    rintro e w1 ⟨rfl, rfl⟩
    go_wp2_with fail
    go_ret2
    exact ⟨ret_ii H.out.1 H.out.2, Below.refl _ _⟩

end Go.Proofs.Ytegoiiconhgjbaa.Fea
