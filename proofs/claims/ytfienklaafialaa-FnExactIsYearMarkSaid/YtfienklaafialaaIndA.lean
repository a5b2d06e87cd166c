/- Contracts of spec's indictions and marks of a year and of a day. -/
import Derived.Test.YtfienklaafialaaIndM
import Derived.Test.YtfienklaafialaaReiA
namespace Go.Proofs.Ytfienklaafialaa.Ind
open Go.RowKit
open Go.Proofs.Ytfienklaafialaa.Eas (isY It spec_year_yes spec_year_no spec_weekday)
open Go.Proofs.Ytfienklaafialaa.Fea (yr yr_isY yr_in ys_old spec_oldOf SDate.year isDay spec_day_yes spec_day_no fixed_valid)

theorem spec_ind (y : Int) (h0 : 0 ≤ y) (h1 : y ≤ 10000) (w : World) : Calls Try.prog 70 #[.int .i64 y] w fun e w' => e = .returned (.int .i64 (ind y)) ∧ w = w' := by
  go_enter Try.func70, Try.ntmps70
  go_wp2
  go_ret
  exact ⟨rfl, rfl⟩
theorem spec_ep (y : Int) (h0 : 0 ≤ y) (h1 : y ≤ 10000) (w : World) : Calls Try.prog 74 #[.int .i64 y] w fun e w' => e = .returned (.int .i64 (ep y)) ∧ w = w' := by
  go_enter Try.func74, Try.ntmps74
  go_wp2
  go_ret
  exact ⟨rfl, rfl⟩
theorem num_324 (y : Int) (h : isY y) : 0 ≤ Cal.num false y 3 24 ∧ Cal.num false y 3 24 ≤ 730499 := by
  have a := Cal.num_in false (fixed_valid y 3 24 h (by omega) (by omega) (by omega) (by omega))
  rw [ys_old, ys_old] at a
  obtain ⟨h1, h2⟩ := h
  omega
theorem spec_con (y : Int) (h : isY y) (w : World) : Calls Try.prog 75 #[.int .i64 y] w (It (con y) w) := by
  obtain ⟨a, b⟩ := num_324 y h
  have N := Lib.hid (fun w => Rei.spec_number_far y 3 24 h.1 (by have := h.2; omega) (by omega) (by omega) (by omega) (by omega) w)
  have HC := Lib.hid (show con y = ((Cal.num false y 3 24 + 5) % 7 + 1) % 7 + 1 from rfl)
  generalize Cal.num false y 3 24 = n at *
  have D := Lib.hid (spec_weekday n (by omega) (by omega))
  clear h
  go_enter Try.func75, Try.ntmps75
  go_wp2_with fail
  refine (N.out _).mono ?_
  rintro e w1 ⟨rfl, hb⟩
  go_wp2_with fail
  refine (D.out _).mono ?_
  rintro e w2 ⟨rfl, rfl⟩
  go_wp2_with fail
  go_ret
  exact ⟨ret_int (show (n + 5 + 1) % 7 + 1 = con y by rw [HC.out]; omega), hb⟩
theorem spec_kind_yes (k : Int) (h : isK k) (w : World) : Calls Try.prog 60 #[.int .i64 k] w fun e w' => e = .returned (.bool true) ∧ w = w' := by
  have A := Lib.hid (Eas.spec_in_yes k 0 2 h)
  clear h
  go_enter Try.func60, Try.ntmps60
  go_wp2_with fail
  refine (A.out _).mono ?_
  rintro e w1 ⟨rfl, rfl⟩
  go_wp2_with fail
  go_ret
  exact ⟨rfl, rfl⟩
theorem spec_kind_no (k : Int) (h : ¬ isK k) (w : World) : Calls Try.prog 60 #[.int .i64 k] w fun e w' => e = .returned (.bool false) ∧ w = w' := by
  have A := Lib.hid (Eas.spec_in_no k 0 2 h)
  clear h
  go_enter Try.func60, Try.ntmps60
  go_wp2_with fail
  refine (A.out _).mono ?_
  rintro e w1 ⟨rfl, rfl⟩
  go_wp2_with fail
  go_ret
  exact ⟨rfl, rfl⟩

theorem spec_IndictionOf (y : Int) (w : World) : Calls Try.prog 22 #[.int .i64 y] w (Two (ifN y) (yE y) w) := by
  by_cases h : isY y
  · have Y := Lib.hid (spec_year_yes y h)
    have I := Lib.hid (spec_ind y (by have := h.1; omega) (by have := h.2; omega))
    have H := Lib.hid (show ind y = ifN y ∧ 0 = yE y from ⟨(if_pos h).symm, (if_pos h).symm⟩)
    clear h
    generalize ind y = i at *
    go_enter Try.func22, Try.ntmps22
    go_wp2_with fail
    refine (Y.out _).mono ?_
    rintro e w1 ⟨rfl, rfl⟩
    go_wp2_with fail
    refine (I.out _).mono ?_
    rintro e w1 ⟨rfl, rfl⟩
    go_wp2_with fail
    go_ret2
    exact ⟨ret_ii H.out.1 H.out.2, Below.refl _ _⟩
  · have Y := Lib.hid (spec_year_no y h)
    have H := Lib.hid (show 0 = ifN y ∧ 2 = yE y from ⟨(if_neg h).symm, (if_neg h).symm⟩)
    clear h
    go_enter Try.func22, Try.ntmps22
    go_wp2_with fail
    refine (Y.out _).mono ?_
    rintro e w1 ⟨rfl, rfl⟩
    go_wp2_with fail
    go_ret2
    exact ⟨ret_ii H.out.1 H.out.2, Below.refl _ _⟩
theorem spec_EpactOf (y : Int) (w : World) : Calls Try.prog 31 #[.int .i64 y] w (Two (epN y) (yE y) w) := by
  by_cases h : isY y
  · have Y := Lib.hid (spec_year_yes y h)
    have I := Lib.hid (spec_ep y (by have := h.1; omega) (by have := h.2; omega))
    have H := Lib.hid (show ep y = epN y ∧ 0 = yE y from ⟨(if_pos h).symm, (if_pos h).symm⟩)
    clear h
    generalize ep y = i at *
    go_enter Try.func31, Try.ntmps31
    go_wp2_with fail
    refine (Y.out _).mono ?_
    rintro e w1 ⟨rfl, rfl⟩
    go_wp2_with fail
    refine (I.out _).mono ?_
    rintro e w1 ⟨rfl, rfl⟩
    go_wp2_with fail
    go_ret2
    exact ⟨ret_ii H.out.1 H.out.2, Below.refl _ _⟩
  · have Y := Lib.hid (spec_year_no y h)
    have H := Lib.hid (show 0 = epN y ∧ 2 = yE y from ⟨(if_neg h).symm, (if_neg h).symm⟩)
    clear h
    go_enter Try.func31, Try.ntmps31
    go_wp2_with fail
    refine (Y.out _).mono ?_
    rintro e w1 ⟨rfl, rfl⟩
    go_wp2_with fail
    go_ret2
    exact ⟨ret_ii H.out.1 H.out.2, Below.refl _ _⟩
theorem spec_ConcurrentOf (y : Int) (w : World) : Calls Try.prog 33 #[.int .i64 y] w (Two (coN y) (yE y) w) := by
  by_cases h : isY y
  · have Y := Lib.hid (spec_year_yes y h)
    have I := Lib.hid (spec_con y h)
    have H := Lib.hid (show con y = coN y ∧ 0 = yE y from ⟨(if_pos h).symm, (if_pos h).symm⟩)
    clear h
    generalize con y = i at *
    go_enter Try.func33, Try.ntmps33
    go_wp2_with fail
    refine (Y.out _).mono ?_
    rintro e w1 ⟨rfl, rfl⟩
    go_wp2_with fail
    refine (I.out _).mono ?_
    rintro e w1 ⟨rfl, hb⟩
    go_wp2_with fail
    go_ret2
    exact ⟨ret_ii H.out.1 H.out.2, hb⟩
  · have Y := Lib.hid (spec_year_no y h)
    have H := Lib.hid (show 0 = coN y ∧ 2 = yE y from ⟨(if_neg h).symm, (if_neg h).symm⟩)
    clear h
    go_enter Try.func33, Try.ntmps33
    go_wp2_with fail
    refine (Y.out _).mono ?_
    rintro e w1 ⟨rfl, rfl⟩
    go_wp2_with fail
    go_ret2
    exact ⟨ret_ii H.out.1 H.out.2, Below.refl _ _⟩

/-- What a call leaves that answers a mark and a code. -/
def MkO (a b c E : Int) (w : World) (e : Ending) (w' : World) : Prop := e = .returned (.tuple #[.agg #[.int .i64 a, .int .i64 b, .int .i64 c], .int .i64 E]) ∧ Below w.heap.size w w'
theorem ret_mk {a b c E a' b' c' E' : Int} (h : a = a' ∧ b = b' ∧ c = c' ∧ E = E') : Ending.returned (.tuple #[.agg #[.int .i64 a, .int .i64 b, .int .i64 c], .int .i64 E]) = .returned (.tuple #[.agg #[.int .i64 a', .int .i64 b', .int .i64 c'], .int .i64 E']) := by
  rw [h.1, h.2.1, h.2.2.1, h.2.2.2]
set_option maxHeartbeats 1000000 in
theorem spec_MarkOf (y : Int) (w : World) : Calls Try.prog 29 #[.int .i64 y] w (MkO (ifN y) (epN y) (coN y) (yE y) w) := by
  have S0 := (St.start w).alloc 42 #[.int .i64 0, .int .i64 0, .int .i64 0]
  by_cases h : isY y
  · have Y := Lib.hid (spec_year_yes y h)
    have I := Lib.hid (spec_ind y (by have := h.1; omega) (by have := h.2; omega))
    have J := Lib.hid (spec_ep y (by have := h.1; omega) (by have := h.2; omega))
    have K := Lib.hid (spec_con y h)
    have H := Lib.hid (show ind y = ifN y ∧ ep y = epN y ∧ con y = coN y ∧ 0 = yE y from ⟨(if_pos h).symm, (if_pos h).symm, (if_pos h).symm, (if_pos h).symm⟩)
    clear h
    generalize ind y = a at *
    generalize ep y = b at *
    generalize con y = c at *
    go_enter Try.func29, Try.ntmps29
    go_wp2_with fail
    refine (Y.out _).mono ?_
    rintro e w1 ⟨rfl, rfl⟩
    go_wp2_with fail
    refine (I.out _).mono ?_
    rintro e w1 ⟨rfl, rfl⟩
    go_wp2_with fail
    refine (J.out _).mono ?_
    rintro e w1 ⟨rfl, rfl⟩
    go_wp2_with fail
    refine (K.out _).mono ?_
    rintro e w1 ⟨rfl, hb⟩
    have S1 := S0.call hb
    obtain ⟨c0, c1, c2⟩ := S1.b0.three
    have f0 := S1.b0.frozen 0
    have f1 := S1.b0.frozen 1
    have f2 := S1.b0.frozen 2
    have hbb := ((S1.bel.setCell (p := ⟨w.heap.size, 0, none⟩) (Nat.le_refl _) (.int .i64 a)).setCell (p := ⟨w.heap.size, 1, none⟩) (Nat.le_refl _) (.int .i64 b)).setCell (p := ⟨w.heap.size, 2, none⟩) (Nat.le_refl _) (.int .i64 c)
    clear S0 S1 hb
    go_wp2_with fail
    refine bodyPost_ret (v := .tuple #[.agg #[.int .i64 a, .int .i64 b, .int .i64 c], .int .i64 0]) (by simp [results, Try.results29, go_sem, c0, c1, c2]) rfl ⟨ret_mk H.out, hbb⟩
  · have Y := Lib.hid (spec_year_no y h)
    have H := Lib.hid (show 0 = ifN y ∧ 0 = epN y ∧ 0 = coN y ∧ 2 = yE y from ⟨(if_neg h).symm, (if_neg h).symm, (if_neg h).symm, (if_neg h).symm⟩)
    clear h
    have hbb := ((S0.bel.setCell (p := ⟨w.heap.size, 0, none⟩) (Nat.le_refl _) (.int .i64 0)).setCell (p := ⟨w.heap.size, 1, none⟩) (Nat.le_refl _) (.int .i64 0)).setCell (p := ⟨w.heap.size, 2, none⟩) (Nat.le_refl _) (.int .i64 0)
    have hb1 := S0.bel
    clear S0
    go_enter Try.func29, Try.ntmps29
    go_wp2_with fail
    refine (Y.out _).mono ?_
    rintro e w1 ⟨rfl, rfl⟩
    go_wp2_with fail
    refine bodyPost_ret (v := .tuple #[.agg #[.int .i64 0, .int .i64 0, .int .i64 0], .int .i64 2]) (by simp [results, Try.results29, go_sem]) rfl ⟨ret_mk H.out, ?_⟩
    first | exact hbb | exact hb1

/-- What a mark is, as a value. -/
def mV (a e c : Int) : Value := .agg #[.int .i64 a, .int .i64 e, .int .i64 c]
theorem spec_IsYearMark (a e c : Int) (b : Bool) (hb : decide (mkOk a e c) = b) (w : World) : Calls Try.prog 39 #[mV a e c] w (Bl b w) := by
  subst hb
  unfold mV
  have fin : Below w.heap.size w (w.alloc (.cells #[.int .i64 a, .int .i64 e, .int .i64 c] 42)) := (Below.refl _ _).alloc (Nat.le_refl _) _
  by_cases h1 : 0 ≤ a ∧ a ≤ 15
  · have I := Lib.hid (Eas.spec_in_yes a 0 15 h1)
    by_cases h2 : -1 ≤ e ∧ e ≤ 29
    · have J := Lib.hid (Eas.spec_in_yes e (-1) 29 h2)
      by_cases h3 : 0 ≤ c ∧ c ≤ 7
      · have K := Lib.hid (Eas.spec_in_yes c 0 7 h3)
        rw [decide_eq_true (show mkOk a e c from ⟨h1, h2, h3⟩)]
        clear h1 h2 h3
        go_enter Try.func39, Try.ntmps39
        go_wp2_with fail
        refine (I.out _).mono ?_
        rintro e w1 ⟨rfl, rfl⟩
        go_wp2_with fail
        refine (J.out _).mono ?_
        rintro e w1 ⟨rfl, rfl⟩
        go_wp2_with fail
        refine (K.out _).mono ?_
        rintro e w1 ⟨rfl, rfl⟩
        go_wp2_with fail
        go_ret
        exact ⟨rfl, fin⟩
      · have K := Lib.hid (Eas.spec_in_no c 0 7 h3)
        rw [decide_eq_false (show ¬ mkOk a e c from fun h => h3 h.2.2)]
        clear h1 h2 h3
        go_enter Try.func39, Try.ntmps39
        go_wp2_with fail
        refine (I.out _).mono ?_
        rintro e w1 ⟨rfl, rfl⟩
        go_wp2_with fail
        refine (J.out _).mono ?_
        rintro e w1 ⟨rfl, rfl⟩
        go_wp2_with fail
        refine (K.out _).mono ?_
        rintro e w1 ⟨rfl, rfl⟩
        go_wp2_with fail
        go_ret
        exact ⟨rfl, fin⟩
    · have J := Lib.hid (Eas.spec_in_no e (-1) 29 h2)
      rw [decide_eq_false (show ¬ mkOk a e c from fun h => h2 h.2.1)]
      clear h1 h2
      go_enter Try.func39, Try.ntmps39
      go_wp2_with fail
      refine (I.out _).mono ?_
      rintro e w1 ⟨rfl, rfl⟩
      go_wp2_with fail
      refine (J.out _).mono ?_
      rintro e w1 ⟨rfl, rfl⟩
      go_wp2_with fail
      go_ret
      exact ⟨rfl, fin⟩
  · have I := Lib.hid (Eas.spec_in_no a 0 15 h1)
    rw [decide_eq_false (show ¬ mkOk a e c from fun h => h1 h.1)]
    clear h1
    go_enter Try.func39, Try.ntmps39
    go_wp2_with fail
    refine (I.out _).mono ?_
    rintro e w1 ⟨rfl, rfl⟩
    go_wp2_with fail
    go_ret
    exact ⟨rfl, fin⟩

/-! ### the indiction of a day -/
set_option maxHeartbeats 1000000 in
theorem spec_onI (k n : Int) (hk : isK k) (hn : isDay n) (w : World) : Calls Try.prog 62 #[.int .i64 k, .int .i64 n] w (It (onI k n) w) := by
  obtain ⟨n0, n1⟩ := hn
  have O := Lib.hid (fun w => (spec_oldOf n (by rw [Cal.ys_1]; simpa using n0) n1 w).mono fun e w' k => SDate.year k n1)
  obtain ⟨y0, y1⟩ := yr_isY n n0 n1
  have ho : onI k n = ind (if k ≠ 2 ∧ trn k (yr n) ≤ n then yr n + 1 else yr n) := rfl
  have tb := trn_in k (yr n)
  have NU := Lib.hid (fun w => Rei.spec_number_far (yr n) 9 (kdy k) y0 (by omega) (by omega) (by omega) (by have := kdy_bd k; omega) (by have := kdy_bd k; omega) w)
  have ht : Cal.num false (yr n) 9 (kdy k) = trn k (yr n) := rfl
  rw [ht] at NU
  clear ht
  generalize trn k (yr n) = T at *
  generalize yr n = y at *
  have hfd : ∀ (m d : Int) (w : World), (Instr.field 69 (.agg #[.int .i64 y, .int .i64 m, .int .i64 d]) 0).run Try.prog w = .ok (.int .i64 y) w := fun _ _ _ => by kernel_rfl
  have I1 := Lib.hid (spec_ind (y + 1) (by omega) (by omega))
  have I0 := Lib.hid (spec_ind y (by omega) (by omega))
  obtain ⟨k0, k1⟩ := hk
  obtain ⟨j, rfl⟩ : ∃ j : Nat, k = j := ⟨k.toNat, by omega⟩
  have hj : j ≤ 2 := by omega
  by_cases h2 : j = 2
  · subst h2
    have H := Lib.hid (show onI ((2 : Nat) : Int) n = ind y by rw [ho, if_neg (fun h => h.1 rfl)])
    clear ho tb NU
    go_enter Try.func62, Try.ntmps62
    go_wp2_with fail
    refine (O.out _).mono ?_
    rintro e w1 ⟨m, d, rfl, hb⟩
    have hb2 := hb.alloc hb.size (.cells #[.int .i64 1, .int .i64 24] 2)
    go_wp2_with fail
    refine (I0.out _).mono ?_
    rintro e w2 ⟨rfl, rfl⟩
    go_wp2_with fail
    go_ret
    exact ⟨ret_int H.out.symm, hb2⟩
  · have hj1 : (j : Int) < 2 := by omega
    have hne : ((j : Int) == 2) = false := by simp; omega
    by_cases hc : T ≤ n
    · have H := Lib.hid (show onI (j : Int) n = ind (y + 1) by rw [ho, if_pos ⟨by omega, hc⟩])
      clear ho tb
      go_enter Try.func62, Try.ntmps62
      go_wp2_with fail
      refine (O.out _).mono ?_
      rintro e w1 ⟨m, d, rfl, hb⟩
      have hb2 := hb.alloc hb.size (.cells #[.int .i64 1, .int .i64 24] 2)
      have cc : (w1.alloc (.cells #[.int .i64 1, .int .i64 24] 2)).cell? ⟨w1.heap.size, j, none⟩ = some (.int .i64 (kdy j)) := by
        rw [(Blk.new w1 2 #[.int .i64 1, .int .i64 24]).cell j]
        have : j = 0 ∨ j = 1 := by omega
        rcases this with rfl | rfl <;> rfl
      go_wp2_with fail
      refine (NU.out _).mono ?_
      rintro e w2 ⟨rfl, hb3⟩
      go_wp2_with fail
      refine (I1.out _).mono ?_
      rintro e w2 ⟨rfl, rfl⟩
      go_wp2_with fail
      go_ret
      exact ⟨ret_int H.out.symm, hb2.trans (hb3.mono hb2.size)⟩
    · have H := Lib.hid (show onI (j : Int) n = ind y by rw [ho, if_neg (fun h => hc h.2)])
      have hc2 : decide (T ≤ n) = false := by simpa using hc
      clear ho tb
      go_enter Try.func62, Try.ntmps62
      go_wp2_with fail
      refine (O.out _).mono ?_
      rintro e w1 ⟨m, d, rfl, hb⟩
      have hb2 := hb.alloc hb.size (.cells #[.int .i64 1, .int .i64 24] 2)
      have cc : (w1.alloc (.cells #[.int .i64 1, .int .i64 24] 2)).cell? ⟨w1.heap.size, j, none⟩ = some (.int .i64 (kdy j)) := by
        rw [(Blk.new w1 2 #[.int .i64 1, .int .i64 24]).cell j]
        have : j = 0 ∨ j = 1 := by omega
        rcases this with rfl | rfl <;> rfl
      go_wp2_with fail
      refine (NU.out _).mono ?_
      rintro e w2 ⟨rfl, hb3⟩
      go_wp2_with fail
      refine (I0.out _).mono ?_
      rintro e w2 ⟨rfl, rfl⟩
      go_wp2_with fail
      go_ret
      exact ⟨ret_int H.out.symm, hb2.trans (hb3.mono hb2.size)⟩

theorem spec_IndictionOn (k n : Int) (w : World) : Calls Try.prog 16 #[.int .i64 k, .int .i64 n] w (Two (ioN k n) (ioE k n) w) := by
  by_cases hk : isK k
  · have K := Lib.hid (spec_kind_yes k hk)
    by_cases hn : isDay n
    · have D := Lib.hid (spec_day_yes n hn)
      have O := Lib.hid (spec_onI k n hk hn)
      have H := Lib.hid (show onI k n = ioN k n ∧ 0 = ioE k n from ⟨(if_pos ⟨hk, hn⟩).symm, (if_pos ⟨hk, hn⟩).symm⟩)
      clear hk hn
      generalize onI k n = i at *
      go_enter Try.func16, Try.ntmps16
      go_wp2_with fail
      refine (K.out _).mono ?_
      rintro e w1 ⟨rfl, rfl⟩
      go_wp2_with fail
      refine (D.out _).mono ?_
      rintro e w1 ⟨rfl, rfl⟩
      go_wp2_with fail
      refine (O.out _).mono ?_
      rintro e w1 ⟨rfl, hb⟩
      go_wp2_with fail
      go_ret2
      exact ⟨ret_ii H.out.1 H.out.2, hb⟩
    · have D := Lib.hid (spec_day_no n hn)
      have H := Lib.hid (show 0 = ioN k n ∧ 2 = ioE k n from ⟨(if_neg (fun h => hn h.2)).symm, (if_neg (fun h => hn h.2)).symm⟩)
      clear hk hn
      go_enter Try.func16, Try.ntmps16
      go_wp2_with fail
      refine (K.out _).mono ?_
      rintro e w1 ⟨rfl, rfl⟩
      go_wp2_with fail
      refine (D.out _).mono ?_
      rintro e w1 ⟨rfl, rfl⟩
      go_wp2_with fail
      go_ret2
      exact ⟨ret_ii H.out.1 H.out.2, Below.refl _ _⟩
  · have K := Lib.hid (spec_kind_no k hk)
    have H := Lib.hid (show 0 = ioN k n ∧ 2 = ioE k n from ⟨(if_neg (fun h => hk h.1)).symm, (if_neg (fun h => hk h.1)).symm⟩)
    clear hk
    go_enter Try.func16, Try.ntmps16
    go_wp2_with fail
    refine (K.out _).mono ?_
    rintro e w1 ⟨rfl, rfl⟩
    go_wp2_with fail
    go_ret2
    exact ⟨ret_ii H.out.1 H.out.2, Below.refl _ _⟩

end Go.Proofs.Ytfienklaafialaa.Ind
