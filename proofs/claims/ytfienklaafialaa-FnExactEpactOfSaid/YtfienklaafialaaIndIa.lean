/- Contracts of impl's indictions and marks of a year and of a day. -/
import Derived.Test.YtfienklaafialaaIndA
import Derived.Test.YtfienklaafialaaIndN
import Derived.Test.YtfienklaafialaaHas
namespace Go.Proofs.Ytfienklaafialaa.Ind
open Go.RowKit
open Go.Proofs.Ytfienklaafialaa.Eas (isY It impl_oldDayOf)
open Go.Proofs.Ytfienklaafialaa.Fea (yr yr_isY yr_num isDay fixed_valid)
open Go.Proofs.Ytfienklaafialaa.Sets (impl_spanHas below_on)

theorem impl_ysFar (y : Int) (h0 : 1 ≤ y) (h1 : y ≤ 3000) (w : World) :
    Calls Try.prog 82 #[.int .i64 0, .int .i64 y] w fun e w' => e = .returned (.int .i64 (Cal.ys false y)) ∧ w = w' := by
  go_enter Try.func82, Try.ntmps82
  go_wp2
  go_ret
  exact ⟨ret_int (by simp [Cal.ys]), rfl⟩
theorem impl_dayYes (n : Int) (h : isDay n) (w : World) : Calls Try.prog 55 #[.int .i64 n] w fun e w' => e = .returned (.bool true) ∧ w = w' := Sets.impl_isDay n true (decide_eq_true h) w
theorem impl_dayNo (n : Int) (h : ¬ isDay n) (w : World) : Calls Try.prog 55 #[.int .i64 n] w fun e w' => e = .returned (.bool false) ∧ w = w' := Sets.impl_isDay n false (decide_eq_false h) w
theorem impl_yrOf (n : Int) (h : isDay n) (w : World) : Calls Try.prog 56 #[.int .i64 0, .int .i64 n] w fun e w' => ∃ m d : Int, e = .returned (.tuple #[.agg #[.int .i64 (yr n), .int .i64 m, .int .i64 d], .int .i64 0]) ∧ Below w.heap.size w w' := by
  refine (impl_dateOf false n w).mono fun e w' q => ?_
  obtain ⟨y, m, d, c, he, hd, hb⟩ := q
  rcases hd with ⟨-, -, rfl, hv, hn⟩ | ⟨h2, -⟩
  · rw [yr_num hv hn]
    exact ⟨m, d, he, hb⟩
  · exfalso
    rw [Cal.ys_1, Cal.ys_2001] at h2
    obtain ⟨h0, h1⟩ := h
    simp at h2
    omega

theorem impl_ind (y : Int) (h0 : 0 ≤ y) (h1 : y ≤ 10000) (w : World) : Calls Try.prog 59 #[.int .i64 y] w fun e w' => e = .returned (.int .i64 (ind y)) ∧ w = w' := by
  go_enter Try.func59, Try.ntmps59
  go_wp2
  go_ret
  exact ⟨rfl, rfl⟩
theorem impl_ep (y : Int) (h0 : 0 ≤ y) (h1 : y ≤ 10000) (w : World) : Calls Try.prog 76 #[.int .i64 y] w fun e w' => e = .returned (.int .i64 (ep y)) ∧ w = w' := by
  go_enter Try.func76, Try.ntmps76
  go_wp2
  go_ret
  exact ⟨rfl, rfl⟩
theorem impl_con (y : Int) (h : isY y) (w : World) : Calls Try.prog 77 #[.int .i64 y] w (It (con y) w) := by
  obtain ⟨a, b⟩ := num_324 y h
  have N := Lib.hid (impl_oldDayOf y 3 24 (fixed_valid y 3 24 h (by omega) (by omega) (by omega) (by omega)))
  have HC := Lib.hid (show con y = ((Cal.num false y 3 24 + 5) % 7 + 1) % 7 + 1 from rfl)
  generalize Cal.num false y 3 24 = n at *
  have D := Lib.hid (impl_WeekdayOf n)
  have e1 : wkNum n = (n + 5) % 7 := if_pos ⟨a, b⟩
  obtain ⟨E, hE⟩ : ∃ E, wkErr n = E := ⟨_, rfl⟩
  rw [e1, hE] at D
  clear h hE e1
  go_enter Try.func77, Try.ntmps77
  go_wp2_with fail
  refine (N.out _).mono ?_
  rintro e w1 ⟨rfl, hb⟩
  go_wp2_with fail
  refine (D.out _).mono ?_
  rintro e w2 ⟨rfl, hb2⟩
  go_wp2_with fail
  go_ret
  exact ⟨ret_int (show (n + 5 + 1) % 7 + 1 = con y by rw [HC.out]; omega), below_on hb hb2⟩
theorem impl_kind_yes (k : Int) (h : isK k) (w : World) : Calls Try.prog 54 #[.int .i64 k] w fun e w' => e = .returned (.bool true) ∧ w = w' := by
  obtain ⟨h0, h1⟩ := h
  have hd : decide (k ≤ 2) = true := decide_eq_true h1
  go_enter Try.func54, Try.ntmps54
  go_wp2
  go_ret
  exact ⟨by first | rfl | simp [h1], rfl⟩
theorem impl_kind_no (k : Int) (h : ¬ isK k) (w : World) : Calls Try.prog 54 #[.int .i64 k] w fun e w' => e = .returned (.bool false) ∧ w = w' := by
  unfold isK at h
  by_cases h0 : 0 ≤ k
  · have h1 : ¬ k ≤ 2 := fun e => h ⟨h0, e⟩
    clear h
    go_enter Try.func54, Try.ntmps54
    go_wp2
    go_ret
    exact ⟨by first | rfl | simp [h1], rfl⟩
  · have hd : decide (0 ≤ k) = false := by simpa using h0
    clear h
    go_enter Try.func54, Try.ntmps54
    go_wp2
    go_ret
    exact ⟨by first | rfl | simp [h0], rfl⟩
theorem impl_lead (k : Int) (h : isK k) (w : World) : Calls Try.prog 84 #[.int .i64 k] w (It (lead k) w) := by
  obtain ⟨h0, h1⟩ := h
  have : k = 0 ∨ k = 1 ∨ k = 2 := by omega
  rcases this with rfl | rfl | rfl
  all_goals
    go_enter Try.func84, Try.ntmps84
    go_wp2
    go_ret
    exact ⟨rfl, Below.refl _ _⟩
theorem impl_span (k y : Int) (hk : isK k) (h0 : 1 ≤ y) (h1 : y ≤ 2001) (w : World) :
    Calls Try.prog 57 #[.int .i64 k, .int .i64 y] w fun e w' => e = .returned (.agg #[.int .i64 (yF k y), .int .i64 (yT k y)]) ∧ Below w.heap.size w w' := by
  have L := Lib.hid (impl_lead k hk)
  have A := Lib.hid (impl_ysFar y h0 (by omega))
  have B := Lib.hid (impl_ysFar (y + 1) (by omega) (by omega))
  have HF := Lib.hid (yF_lead hk y)
  have HT := Lib.hid (yT_lead hk y)
  obtain ⟨l0, l1⟩ := lead_bd k
  have a := Fea.ys_old y
  have b := Fea.ys_old (y + 1)
  have a0 : 0 ≤ Cal.ys false y ∧ Cal.ys false y ≤ 4000000 := by omega
  have b0 : 0 ≤ Cal.ys false (y + 1) ∧ Cal.ys false (y + 1) ≤ 4000000 := by omega
  clear a b hk
  generalize Cal.ys false y = p at *
  generalize Cal.ys false (y + 1) = q at *
  generalize lead k = l at *
  have S0 := (St.start w).alloc 74 #[.int .i64 0, .int .i64 0]
  go_enter Try.func57, Try.ntmps57
  go_wp2_with fail
  refine (L.out _).mono ?_
  rintro e w1 ⟨rfl, hb1⟩
  have S1 := S0.call hb1
  have c0 := S1.b0.cell 0
  have c1 := S1.b0.cell 1
  simp at c0 c1
  have f0 := S1.b0.frozen 0
  have f1 := S1.b0.frozen 1
  have hbb := (S1.bel.setCell (p := ⟨w.heap.size, 0, none⟩) (Nat.le_refl _) (.int .i64 (p - l))).setCell (p := ⟨w.heap.size, 1, none⟩) (Nat.le_refl _) (.int .i64 (q - l - 1))
  clear S0 S1 hb1 L
  go_wp2_with fail
  refine (A.out _).mono ?_
  rintro e w2 ⟨rfl, rfl⟩
  go_wp2_with fail
  refine (B.out _).mono ?_
  rintro e w2 ⟨rfl, rfl⟩
  go_wp2_with fail
  refine bodyPost_ret (v := .agg #[.int .i64 (p - l), .int .i64 (q - l - 1)]) (by simp [results, Try.results57, go_sem, c0, c1]) rfl ⟨by rw [HF.out, HT.out], hbb⟩

theorem impl_IndictionOf (y : Int) (w : World) : Calls Try.prog 21 #[.int .i64 y] w (Two (ifN y) (yE y) w) := by
  by_cases h : isY y
  · have Y := Lib.hid (impl_year_yes y h.1 h.2)
    have I := Lib.hid (impl_ind y (by have := h.1; omega) (by have := h.2; omega))
    have H := Lib.hid (show ind y = ifN y ∧ 0 = yE y from ⟨(if_pos h).symm, (if_pos h).symm⟩)
    clear h
    generalize ind y = i at *
    go_enter Try.func21, Try.ntmps21
    go_wp2_with fail
    refine (Y.out _).mono ?_
    rintro e w1 ⟨rfl, rfl⟩
    go_wp2_with fail
    refine (I.out _).mono ?_
    rintro e w1 ⟨rfl, rfl⟩
    go_wp2_with fail
    go_ret2
    exact ⟨ret_ii H.out.1 H.out.2, Below.refl _ _⟩
  · have Y := Lib.hid (impl_year_no y h)
    have H := Lib.hid (show 0 = ifN y ∧ 2 = yE y from ⟨(if_neg h).symm, (if_neg h).symm⟩)
    clear h
    go_enter Try.func21, Try.ntmps21
    go_wp2_with fail
    refine (Y.out _).mono ?_
    rintro e w1 ⟨rfl, rfl⟩
    go_wp2_with fail
    go_ret2
    exact ⟨ret_ii H.out.1 H.out.2, Below.refl _ _⟩

theorem impl_EpactOf (y : Int) (w : World) : Calls Try.prog 30 #[.int .i64 y] w (Two (epN y) (yE y) w) := by
  by_cases h : isY y
  · have Y := Lib.hid (impl_year_yes y h.1 h.2)
    have I := Lib.hid (impl_ep y (by have := h.1; omega) (by have := h.2; omega))
    have H := Lib.hid (show ep y = epN y ∧ 0 = yE y from ⟨(if_pos h).symm, (if_pos h).symm⟩)
    clear h
    generalize ep y = i at *
    go_enter Try.func30, Try.ntmps30
    go_wp2_with fail
    refine (Y.out _).mono ?_
    rintro e w1 ⟨rfl, rfl⟩
    go_wp2_with fail
    refine (I.out _).mono ?_
    rintro e w1 ⟨rfl, rfl⟩
    go_wp2_with fail
    go_ret2
    exact ⟨ret_ii H.out.1 H.out.2, Below.refl _ _⟩
  · have Y := Lib.hid (impl_year_no y h)
    have H := Lib.hid (show 0 = epN y ∧ 2 = yE y from ⟨(if_neg h).symm, (if_neg h).symm⟩)
    clear h
    go_enter Try.func30, Try.ntmps30
    go_wp2_with fail
    refine (Y.out _).mono ?_
    rintro e w1 ⟨rfl, rfl⟩
    go_wp2_with fail
    go_ret2
    exact ⟨ret_ii H.out.1 H.out.2, Below.refl _ _⟩

theorem impl_ConcurrentOf (y : Int) (w : World) : Calls Try.prog 32 #[.int .i64 y] w (Two (coN y) (yE y) w) := by
  by_cases h : isY y
  · have Y := Lib.hid (impl_year_yes y h.1 h.2)
    have I := Lib.hid (impl_con y h)
    have H := Lib.hid (show con y = coN y ∧ 0 = yE y from ⟨(if_pos h).symm, (if_pos h).symm⟩)
    clear h
    generalize con y = i at *
    go_enter Try.func32, Try.ntmps32
    go_wp2_with fail
    refine (Y.out _).mono ?_
    rintro e w1 ⟨rfl, rfl⟩
    go_wp2_with fail
    refine (I.out _).mono ?_
    rintro e w1 ⟨rfl, hb⟩
    go_wp2_with fail
    go_ret2
    exact ⟨ret_ii H.out.1 H.out.2, hb⟩
  · have Y := Lib.hid (impl_year_no y h)
    have H := Lib.hid (show 0 = coN y ∧ 2 = yE y from ⟨(if_neg h).symm, (if_neg h).symm⟩)
    clear h
    go_enter Try.func32, Try.ntmps32
    go_wp2_with fail
    refine (Y.out _).mono ?_
    rintro e w1 ⟨rfl, rfl⟩
    go_wp2_with fail
    go_ret2
    exact ⟨ret_ii H.out.1 H.out.2, Below.refl _ _⟩

theorem impl_mark (y : Int) (h : isY y) (w : World) : Calls Try.prog 73 #[.int .i64 y] w fun e w' => e = .returned (mV (ind y) (ep y) (con y)) ∧ Below w.heap.size w w' := by
  have I := Lib.hid (impl_ind y (by have := h.1; omega) (by have := h.2; omega))
  have J := Lib.hid (impl_ep y (by have := h.1; omega) (by have := h.2; omega))
  have K := Lib.hid (impl_con y h)
  clear h
  unfold mV
  generalize ind y = a at *
  generalize ep y = b at *
  generalize con y = c at *
  have S0 := (St.start w).alloc 42 #[.int .i64 0, .int .i64 0, .int .i64 0]
  go_enter Try.func73, Try.ntmps73
  go_wp2_with fail
  refine (I.out _).mono ?_
  rintro e w1 ⟨rfl, rfl⟩
  go_wp2_with fail
  refine (J.out _).mono ?_
  rintro e w1 ⟨rfl, rfl⟩
  go_wp2_with fail
  refine (K.out _).mono ?_
  rintro e w1 ⟨rfl, hb⟩
  have S1 := S0.call hb
  obtain ⟨c0, c1, c2⟩ := S1.b0.three
  have f0 := S1.b0.frozen 0
  have f1 := S1.b0.frozen 1
  have f2 := S1.b0.frozen 2
  have hbb := ((S1.bel.setCell (p := ⟨w.heap.size, 0, none⟩) (Nat.le_refl _) (.int .i64 a)).setCell (p := ⟨w.heap.size, 1, none⟩) (Nat.le_refl _) (.int .i64 b)).setCell (p := ⟨w.heap.size, 2, none⟩) (Nat.le_refl _) (.int .i64 c)
  clear S0 S1 hb
  go_wp2_with fail
  refine bodyPost_ret (v := .agg #[.int .i64 a, .int .i64 b, .int .i64 c]) (by simp [results, Try.results73, go_sem, c0, c1, c2]) rfl ⟨rfl, hbb⟩

theorem impl_MarkOf (y : Int) (w : World) : Calls Try.prog 28 #[.int .i64 y] w (MkO (ifN y) (epN y) (coN y) (yE y) w) := by
  have S0 := (St.start w).alloc 42 #[.int .i64 0, .int .i64 0, .int .i64 0]
  by_cases h : isY y
  · have Y := Lib.hid (impl_year_yes y h.1 h.2)
    have I := Lib.hid (impl_mark y h)
    have H := Lib.hid (show ind y = ifN y ∧ ep y = epN y ∧ con y = coN y ∧ 0 = yE y from ⟨(if_pos h).symm, (if_pos h).symm, (if_pos h).symm, (if_pos h).symm⟩)
    clear h
    unfold mV at I
    generalize ind y = a at *
    generalize ep y = b at *
    generalize con y = c at *
    go_enter Try.func28, Try.ntmps28
    go_wp2_with fail
    refine (Y.out _).mono ?_
    rintro e w1 ⟨rfl, rfl⟩
    go_wp2_with fail
    refine (I.out _).mono ?_
    rintro e w1 ⟨rfl, hb⟩
    have S1 := S0.call hb
    obtain ⟨c0, c1, c2⟩ := S1.b0.three
    have f0 := S1.b0.frozen 0
    have f1 := S1.b0.frozen 1
    have f2 := S1.b0.frozen 2
    have hbb := ((S1.bel.setCell (p := ⟨w.heap.size, 0, none⟩) (Nat.le_refl _) (.int .i64 a)).setCell (p := ⟨w.heap.size, 1, none⟩) (Nat.le_refl _) (.int .i64 b)).setCell (p := ⟨w.heap.size, 2, none⟩) (Nat.le_refl _) (.int .i64 c)
    clear S0 S1 hb
    go_wp2_with fail
    refine bodyPost_ret (v := .tuple #[.agg #[.int .i64 a, .int .i64 b, .int .i64 c], .int .i64 0]) (by simp [results, Try.results28, go_sem, c0, c1, c2]) rfl ⟨ret_mk H.out, hbb⟩
  · have Y := Lib.hid (impl_year_no y h)
    have H := Lib.hid (show 0 = ifN y ∧ 0 = epN y ∧ 0 = coN y ∧ 2 = yE y from ⟨(if_neg h).symm, (if_neg h).symm, (if_neg h).symm, (if_neg h).symm⟩)
    clear h
    have hbb := ((S0.bel.setCell (p := ⟨w.heap.size, 0, none⟩) (Nat.le_refl _) (.int .i64 0)).setCell (p := ⟨w.heap.size, 1, none⟩) (Nat.le_refl _) (.int .i64 0)).setCell (p := ⟨w.heap.size, 2, none⟩) (Nat.le_refl _) (.int .i64 0)
    have hb1 := S0.bel
    clear S0
    go_enter Try.func28, Try.ntmps28
    go_wp2_with fail
    refine (Y.out _).mono ?_
    rintro e w1 ⟨rfl, rfl⟩
    go_wp2_with fail
    refine bodyPost_ret (v := .tuple #[.agg #[.int .i64 0, .int .i64 0, .int .i64 0], .int .i64 2]) (by simp [results, Try.results28, go_sem]) rfl ⟨ret_mk H.out, ?_⟩
    first | exact hbb | exact hb1

theorem impl_IsYearMark (a e c : Int) (b : Bool) (hb : decide (mkOk a e c) = b) (w : World) : Calls Try.prog 38 #[mV a e c] w (Bl b w) := by
  subst hb
  unfold mV
  have fin : Below w.heap.size w (w.alloc (.cells #[.int .i64 a, .int .i64 e, .int .i64 c] 42)) := (Below.refl _ _).alloc (Nat.le_refl _) _
  by_cases h0 : 0 ≤ a
  case neg =>
    have hd : decide (0 ≤ a) = false := by simpa using h0
    rw [decide_eq_false (show ¬ mkOk a e c from fun h => h0 h.1.1)]
    clear h0
    go_enter Try.func38, Try.ntmps38
    go_wp2
    go_ret
    exact ⟨by first | rfl | simp_all, fin⟩
  by_cases h1 : a ≤ 15
  case neg =>
    have hd : decide (a ≤ 15) = false := by simpa using h1
    rw [decide_eq_false (show ¬ mkOk a e c from fun h => h1 h.1.2)]
    clear h1
    go_enter Try.func38, Try.ntmps38
    go_wp2
    go_ret
    exact ⟨by first | rfl | simp_all, fin⟩
  by_cases h2 : -1 ≤ e
  case neg =>
    have hd : decide (-1 ≤ e) = false := by simpa using h2
    rw [decide_eq_false (show ¬ mkOk a e c from fun h => h2 h.2.1.1)]
    clear h2
    go_enter Try.func38, Try.ntmps38
    go_wp2
    go_ret
    exact ⟨by first | rfl | simp_all, fin⟩
  by_cases h3 : e ≤ 29
  case neg =>
    have hd : decide (e ≤ 29) = false := by simpa using h3
    rw [decide_eq_false (show ¬ mkOk a e c from fun h => h3 h.2.1.2)]
    clear h3
    go_enter Try.func38, Try.ntmps38
    go_wp2
    go_ret
    exact ⟨by first | rfl | simp_all, fin⟩
  by_cases h4 : 0 ≤ c
  case neg =>
    have hd : decide (0 ≤ c) = false := by simpa using h4
    rw [decide_eq_false (show ¬ mkOk a e c from fun h => h4 h.2.2.1)]
    clear h4
    go_enter Try.func38, Try.ntmps38
    go_wp2
    go_ret
    exact ⟨by first | rfl | simp_all, fin⟩
  by_cases h5 : c ≤ 7
  case neg =>
    have hd : decide (c ≤ 7) = false := by simpa using h5
    rw [decide_eq_false (show ¬ mkOk a e c from fun h => h5 h.2.2.2)]
    clear h5
    go_enter Try.func38, Try.ntmps38
    go_wp2
    go_ret
    exact ⟨by first | rfl | simp_all, fin⟩
  rw [decide_eq_true (show mkOk a e c from ⟨⟨h0, h1⟩, ⟨h2, h3⟩, h4, h5⟩)]
  go_enter Try.func38, Try.ntmps38
  go_wp2
  go_ret
  exact ⟨by first | rfl | simp_all, fin⟩


theorem impl_IndictionOn (k n : Int) (w : World) : Calls Try.prog 15 #[.int .i64 k, .int .i64 n] w (Two (ioN k n) (ioE k n) w) := by
  by_cases hk : isK k
  · have K := Lib.hid (impl_kind_yes k hk)
    by_cases hn : isDay n
    · have D := Lib.hid (impl_dayYes n hn)
      have O := Lib.hid (impl_yrOf n hn)
      have H := Lib.hid (show onI k n = ioN k n ∧ 0 = ioE k n from ⟨(if_pos ⟨hk, hn⟩).symm, (if_pos ⟨hk, hn⟩).symm⟩)
      obtain ⟨n0, n1⟩ := hn
      obtain ⟨y1, y2⟩ := yr_isY n n0 n1
      have hy := onY_bd k n
      have S := Lib.hid (impl_span k (yr n) hk y1 (by omega))
      have on := on_iff k n (yr n)
      have I1 := Lib.hid (impl_ind (yr n + 1) (by omega) (by omega))
      have I0 := Lib.hid (impl_ind (yr n) (by omega) (by omega))
      by_cases hc : onY k n = yr n
      · have B := Lib.hid (impl_spanHas (yF k (yr n)) (yT k (yr n)) n true (decide_eq_true (on.2 hc)))
        have H2 := Lib.hid (show ind (yr n) = ioN k n ∧ 0 = ioE k n from ⟨by rw [← H.out.1, onI, hc], H.out.2⟩)
        clear H on hc hy I1
        generalize yF k (yr n) = p at *
        generalize yT k (yr n) = q at *
        generalize yr n = y at *
        go_enter Try.func15, Try.ntmps15
        go_wp2_with fail
        refine (K.out _).mono ?_
        rintro e w1 ⟨rfl, rfl⟩
        go_wp2_with fail
        refine (D.out _).mono ?_
        rintro e w1 ⟨rfl, rfl⟩
        go_wp2_with fail
        refine (O.out _).mono ?_
        rintro e w1 ⟨m, d, rfl, hb⟩
        have hb1 := hb.alloc hb.size (.cells #[.int .i64 y, .int .i64 m, .int .i64 d] 69)
        have BK := Blk.new w1 69 #[.int .i64 y, .int .i64 m, .int .i64 d]
        have c0 := BK.cell 0
        simp at c0
        clear hb
        go_wp2_with fail
        refine (S.out _).mono ?_
        rintro e w2 ⟨rfl, hb2⟩
        have hb3 := below_on hb1 hb2
        clear hb1
        go_wp2_with fail
        refine (B.out _).mono ?_
        rintro e w3 ⟨rfl, hb4⟩
        have hb5 := below_on hb3 hb4
        have c0' := (BK.below hb2 (by have := BK.lt; omega)).below hb4 (by have := BK.lt; have := hb2.size; omega)
        have c1 := c0'.cell 0
        simp at c1
        clear hb3 c0'
        go_wp2_with fail
        refine (I0.out _).mono ?_
        rintro e w9 ⟨rfl, rfl⟩
        go_wp2_with fail
        go_ret2
        exact ⟨ret_ii H2.out.1 H2.out.2, hb5⟩
      · have B := Lib.hid (impl_spanHas (yF k (yr n)) (yT k (yr n)) n false (decide_eq_false (fun h => hc (on.1 h))))
        have H2 := Lib.hid (show ind (yr n + 1) = ioN k n ∧ 0 = ioE k n from ⟨by rw [← H.out.1, onI, show onY k n = yr n + 1 by omega], H.out.2⟩)
        clear H on hc hy I0
        generalize yF k (yr n) = p at *
        generalize yT k (yr n) = q at *
        generalize yr n = y at *
        go_enter Try.func15, Try.ntmps15
        go_wp2_with fail
        refine (K.out _).mono ?_
        rintro e w1 ⟨rfl, rfl⟩
        go_wp2_with fail
        refine (D.out _).mono ?_
        rintro e w1 ⟨rfl, rfl⟩
        go_wp2_with fail
        refine (O.out _).mono ?_
        rintro e w1 ⟨m, d, rfl, hb⟩
        have hb1 := hb.alloc hb.size (.cells #[.int .i64 y, .int .i64 m, .int .i64 d] 69)
        have BK := Blk.new w1 69 #[.int .i64 y, .int .i64 m, .int .i64 d]
        have c0 := BK.cell 0
        simp at c0
        clear hb
        go_wp2_with fail
        refine (S.out _).mono ?_
        rintro e w2 ⟨rfl, hb2⟩
        have hb3 := below_on hb1 hb2
        clear hb1
        go_wp2_with fail
        refine (B.out _).mono ?_
        rintro e w3 ⟨rfl, hb4⟩
        have hb5 := below_on hb3 hb4
        have c0' := (BK.below hb2 (by have := BK.lt; omega)).below hb4 (by have := BK.lt; have := hb2.size; omega)
        have c1 := c0'.cell 0
        simp at c1
        clear hb3 c0'
        go_wp2_with fail
        refine (I1.out _).mono ?_
        rintro e w9 ⟨rfl, rfl⟩
        go_wp2_with fail
        go_ret2
        exact ⟨ret_ii H2.out.1 H2.out.2, hb5⟩
    · have D := Lib.hid (impl_dayNo n hn)
      have H := Lib.hid (show 0 = ioN k n ∧ 2 = ioE k n from ⟨(if_neg (fun h => hn h.2)).symm, (if_neg (fun h => hn h.2)).symm⟩)
      clear hk hn
      go_enter Try.func15, Try.ntmps15
      go_wp2_with fail
      refine (K.out _).mono ?_
      rintro e w1 ⟨rfl, rfl⟩
      go_wp2_with fail
      refine (D.out _).mono ?_
      rintro e w1 ⟨rfl, rfl⟩
      go_wp2_with fail
      go_ret2
      exact ⟨ret_ii H.out.1 H.out.2, Below.refl _ _⟩
  · have K := Lib.hid (impl_kind_no k hk)
    have H := Lib.hid (show 0 = ioN k n ∧ 2 = ioE k n from ⟨(if_neg (fun h => hk h.1)).symm, (if_neg (fun h => hk h.1)).symm⟩)
    clear hk
    go_enter Try.func15, Try.ntmps15
    go_wp2_with fail
    refine (K.out _).mono ?_
    rintro e w1 ⟨rfl, rfl⟩
    go_wp2_with fail
    go_ret2
    exact ⟨ret_ii H.out.1 H.out.2, Below.refl _ _⟩

end Go.Proofs.Ytfienklaafialaa.Ind
