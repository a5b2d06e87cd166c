/- Contracts of spec's year of a day, YearSpan, YearOn, YearDifference, LengthOfYear. -/
import Derived.Test.YtigjpalbaapkkaaStyA
namespace Go.Proofs.Ytigjpalbaapkkaa.Sty
open Go.RowKit
open Go.Proofs.Ytigjpalbaapkkaa.Eas (isY It)
open Go.Proofs.Ytigjpalbaapkkaa.Fea (yr yr_isY spec_oldOf SDate.year isDay spec_day_yes spec_day_no)

/-- What a call leaves that answers a number and a truth. -/
def NT (n : Int) (b : Bool) (w : World) (e : Ending) (w' : World) : Prop := e = .returned (.tuple #[.int .i64 n, .bool b]) ∧ Below w.heap.size w w'
theorem ret_nt {a a' : Int} {b b' : Bool} (h : a = a') (h' : b = b') : Ending.returned (.tuple #[.int .i64 a, .bool b]) = .returned (.tuple #[.int .i64 a', .bool b']) := by rw [h, h']

set_option maxRecDepth 10000 in
set_option maxHeartbeats 4000000 in
theorem spec_on6 (s n : Int) (hs : isS s) (n0 : 0 ≤ n) (n1 : n ≤ 730499) (w : World) : Calls Try.prog 75 #[.int .i64 s, .int .i64 n] w (NT (on s n) (told s n) w) := by
  have O := Lib.hid (fun w => (spec_oldOf n (by rw [Cal.ys_1]; simpa using n0) n1 w).mono fun e w' k => Fea.SDate.year k n1)
  obtain ⟨y0, y1⟩ := yr_isY n n0 n1
  have HNear : Hid (∀ z, OnIs s n z → yr n - 1 ≤ z ∧ z ≤ yr n + 1) := Lib.hid fun z h => h.near
  generalize yr n = yn at *
  have hfd : ∀ (m d : Int) (w : World), (Instr.field 47 (.agg #[.int .i64 yn, .int .i64 m, .int .i64 d]) 0).run Try.prog w = .ok (.int .i64 yn) w := fun _ _ _ => by kernel_rfl
  go_enter Try.func75, Try.ntmps75
  go_wp2_with fail
  refine (O.out _).mono ?_
  rintro e w1 ⟨m, d, rfl, hb⟩
  go_wp2_with fail
  go_loopg [7] (yn + 2 - (yn - 1)).toNat (fun k i wr => ∃ Y : Int, i = .int .i64 Y ∧ k = (yn + 2 - Y).toNat ∧ yn - 1 ≤ Y ∧ Y ≤ yn + 2 ∧ Hid (∀ z, OnIs s n z → Y ≤ z) ∧ Below w.heap.size w wr)
  case atStart => exact ⟨yn - 1, rfl, rfl, by omega, by omega, Lib.hid (fun z h => (HNear.out z h).1), hb⟩
  case round =>
    obtain ⟨Y, rfl, hk, hY0, hY1, HA, hb1⟩ := hrel
    subst hk
    by_cases hlt : Y ≤ yn + 1
    · by_cases hT : isT Y
      · have Y1 := Lib.hid (spec_syear_yes Y hT)
        have B1 := Lib.hid (spec_begin s Y hs hT.1 (by have := hT.2; omega))
        have B2 := Lib.hid (spec_begin s (Y + 1) hs (by have := hT.1; omega) (by have := hT.2; omega))
        obtain ⟨b1, b2⟩ := bg_bd2 s (Y + 1) (by have := hT.1; omega) (by have := hT.2; omega)
        by_cases hin : bg s Y ≤ n ∧ n ≤ bg s (Y + 1) - 1
        · have I := Lib.hid (Eas.spec_in_yes n (bg s Y) (bg s (Y + 1) - 1) hin)
          have HV := Lib.hid (show Y = on s n ∧ true = told s n from by
            have := on_of (show OnIs s n Y from ⟨hT, hin.1, by omega⟩)
            exact ⟨this.1.symm, this.2.symm⟩)
          clear hT hin HA HNear O
          generalize bg s Y = a at *
          generalize bg s (Y + 1) = b at *
          go_wp2_with fail
          refine (Y1.out _).mono ?_
          rintro e w2 ⟨rfl, rfl⟩
          go_wp2_with fail
          refine (B1.out _).mono ?_
          rintro e w2 ⟨rfl, hb2⟩
          go_wp2_with fail
          refine (B2.out _).mono ?_
          rintro e w3 ⟨rfl, hb3⟩
          go_wp2_with fail
          refine (I.out _).mono ?_
          rintro e w4 ⟨rfl, rfl⟩
          go_wp2_with fail
          go_ret2
          exact ⟨ret_nt HV.out.1 HV.out.2, (hb1.trans (hb2.mono hb1.size)).trans (hb3.mono (hb1.trans (hb2.mono hb1.size)).size)⟩
        · have I := Lib.hid (Eas.spec_in_no n (bg s Y) (bg s (Y + 1) - 1) hin)
          have HN : Hid (∀ z, OnIs s n z → Y + 1 ≤ z) := Lib.hid fun z h => by
            have h1 := HA.out z h
            have h2 : z ≠ Y := fun e => by subst e; exact hin ⟨h.2.1, by have := h.2.2; omega⟩
            omega
          clear hT hin HA HNear O
          generalize bg s Y = a at *
          generalize bg s (Y + 1) = b at *
          go_wp2_with fail
          refine (Y1.out _).mono ?_
          rintro e w2 ⟨rfl, rfl⟩
          go_wp2_with fail
          refine (B1.out _).mono ?_
          rintro e w2 ⟨rfl, hb2⟩
          go_wp2_with fail
          refine (B2.out _).mono ?_
          rintro e w3 ⟨rfl, hb3⟩
          go_wp2_with fail
          refine (I.out _).mono ?_
          rintro e w4 ⟨rfl, rfl⟩
          go_wp2_with fail
          go_roundg (yn + 2 - (Y + 1)).toNat
          case measure => omega
          case rel => exact ⟨Y + 1, by go_num, rfl, by omega, by omega, HN, (hb1.trans (hb2.mono hb1.size)).trans (hb3.mono (hb1.trans (hb2.mono hb1.size)).size)⟩
      · have Y1 := Lib.hid (spec_syear_no Y hT)
        have HN : Hid (∀ z, OnIs s n z → Y + 1 ≤ z) := Lib.hid fun z h => by
          have h1 := HA.out z h
          have h2 : z ≠ Y := fun e => by subst e; exact hT h.1
          omega
        clear hT HA HNear O
        go_wp2_with fail
        refine (Y1.out _).mono ?_
        rintro e w2 ⟨rfl, rfl⟩
        go_wp2_with fail
        go_roundg (yn + 2 - (Y + 1)).toNat
        case measure => omega
        case rel => exact ⟨Y + 1, by go_num, rfl, by omega, by omega, HN, hb1⟩
    · have HV := Lib.hid (show 0 = on s n ∧ false = told s n from by
        have := on_no (s := s) (n := n) fun z h => by
          have h1 := HA.out z h
          have h2 := HNear.out z h
          omega
        exact ⟨this.1.symm, this.2.symm⟩)
      have hge : yn + 1 < Y := by omega
      clear HA HNear O
      go_wp2_with fail
      go_ret2
      exact ⟨ret_nt HV.out.1 HV.out.2, hb1⟩

/-- What a call leaves that answers a span and a code. -/
def SpO (f t c : Int) (w : World) (e : Ending) (w' : World) : Prop := e = .returned (.tuple #[.agg #[.int .i64 f, .int .i64 t], .int .i64 c]) ∧ Below w.heap.size w w'
theorem ret_sp {f t c f' t' c' : Int} (h : f = f' ∧ t = t' ∧ c = c') : Ending.returned (.tuple #[.agg #[.int .i64 f, .int .i64 t], .int .i64 c]) = .returned (.tuple #[.agg #[.int .i64 f', .int .i64 t'], .int .i64 c']) := by rw [h.1, h.2.1, h.2.2]

set_option maxHeartbeats 1000000 in
theorem spec_YearSpan (s y : Int) (w : World) : Calls Try.prog 37 #[.int .i64 s, .int .i64 y] w (SpO (spF s y) (spT s y) (spE s y) w) := by
  by_cases hs : isS s
  · have S := Lib.hid (spec_style_yes s hs)
    by_cases hy : isT y
    · have Y := Lib.hid (spec_syear_yes y hy)
      have P := Lib.hid (spec_sspan s y hs hy)
      have H := Lib.hid (show bg s y = spF s y ∧ bg s (y + 1) - 1 = spT s y ∧ 0 = spE s y from ⟨(if_pos ⟨hs, hy⟩).symm, (if_pos ⟨hs, hy⟩).symm, (if_pos ⟨hs, hy⟩).symm⟩)
      clear hs hy
      generalize bg s y = a at *
      generalize bg s (y + 1) - 1 = b at *
      have S0 := (St.start w).alloc 40 #[.int .i64 0, .int .i64 0]
      go_enter Try.func37, Try.ntmps37
      go_wp2_with fail
      refine (S.out _).mono ?_
      rintro e w1 ⟨rfl, rfl⟩
      go_wp2_with fail
      refine (Y.out _).mono ?_
      rintro e w1 ⟨rfl, rfl⟩
      go_wp2_with fail
      refine (P.out _).mono ?_
      rintro e w1 ⟨rfl, hb⟩
      have S1 := S0.call hb
      have c0 : w1.cell? ⟨w.heap.size, 0, none⟩ = some (.int .i64 0) := S1.b0.cell 0
      have c1 : w1.cell? ⟨w.heap.size, 1, none⟩ = some (.int .i64 0) := S1.b0.cell 1
      have f0 := S1.b0.frozen 0
      have f1 := S1.b0.frozen 1
      have hbb := (S1.bel.setCell (p := ⟨w.heap.size, 0, none⟩) (Nat.le_refl _) (.int .i64 a)).setCell (p := ⟨w.heap.size, 1, none⟩) (Nat.le_refl _) (.int .i64 b)
      clear S0 S1 hb
      go_wp2_with fail
      refine bodyPost_ret (v := .tuple #[.agg #[.int .i64 a, .int .i64 b], .int .i64 0]) (by simp [results, Try.results37, go_sem, c0, c1]) rfl ⟨ret_sp H.out, hbb⟩
    · have Y := Lib.hid (spec_syear_no y hy)
      have H := Lib.hid (show 0 = spF s y ∧ 0 = spT s y ∧ 2 = spE s y from ⟨(if_neg (fun h => hy h.2)).symm, (if_neg (fun h => hy h.2)).symm, (if_neg (fun h => hy h.2)).symm⟩)
      clear hs hy
      go_enter Try.func37, Try.ntmps37
      go_wp2_with fail
      refine (S.out _).mono ?_
      rintro e w1 ⟨rfl, rfl⟩
      go_wp2_with fail
      refine (Y.out _).mono ?_
      rintro e w1 ⟨rfl, rfl⟩
      go_wp2_with fail
      refine bodyPost_ret (v := .tuple #[.agg #[.int .i64 0, .int .i64 0], .int .i64 2]) (by simp [results, Try.results37, go_sem]) rfl ⟨ret_sp H.out, ?_⟩
      first | exact Below.refl _ _ | exact (Below.refl _ _).alloc (Nat.le_refl _) _
  · have S := Lib.hid (spec_style_no s hs)
    have H := Lib.hid (show 0 = spF s y ∧ 0 = spT s y ∧ 2 = spE s y from ⟨(if_neg (fun h => hs h.1)).symm, (if_neg (fun h => hs h.1)).symm, (if_neg (fun h => hs h.1)).symm⟩)
    clear hs
    go_enter Try.func37, Try.ntmps37
    go_wp2_with fail
    refine (S.out _).mono ?_
    rintro e w1 ⟨rfl, rfl⟩
    go_wp2_with fail
    refine bodyPost_ret (v := .tuple #[.agg #[.int .i64 0, .int .i64 0], .int .i64 2]) (by simp [results, Try.results37, go_sem]) rfl ⟨ret_sp H.out, ?_⟩
    first | exact Below.refl _ _ | exact (Below.refl _ _).alloc (Nat.le_refl _) _

set_option maxHeartbeats 1000000 in
theorem spec_LengthOfYear (s y : Int) (w : World) : Calls Try.prog 39 #[.int .i64 s, .int .i64 y] w (Two (lyN s y) (spE s y) w) := by
  by_cases hs : isS s
  · have S := Lib.hid (spec_style_yes s hs)
    by_cases hy : isT y
    · have Y := Lib.hid (spec_syear_yes y hy)
      have P := Lib.hid (spec_sspan s y hs hy)
      have H := Lib.hid (show bg s (y + 1) - 1 - bg s y + 1 = lyN s y ∧ 0 = spE s y from ⟨(show lyN s y = bg s (y + 1) - bg s y from if_pos ⟨hs, hy⟩) ▸ (by omega), (if_pos ⟨hs, hy⟩).symm⟩)
      obtain ⟨a0, a1⟩ := bg_bd2 s y hy.1 (by have := hy.2; omega)
      obtain ⟨b0, b1⟩ := bg_bd2 s (y + 1) (by have := hy.1; omega) (by have := hy.2; omega)
      clear hs hy
      generalize bg s y = a at *
      generalize bg s (y + 1) = b at *
      have k := Blk.new w 40 #[.int .i64 a, .int .i64 (b - 1)]
      go_enter Try.func39, Try.ntmps39
      go_wp2_with fail
      refine (S.out _).mono ?_
      rintro e w1 ⟨rfl, rfl⟩
      go_wp2_with fail
      refine (Y.out _).mono ?_
      rintro e w1 ⟨rfl, rfl⟩
      go_wp2_with fail
      refine (P.out _).mono ?_
      rintro e w1 ⟨rfl, hb⟩
      go_wp2_with fail
      go_ret2
      exact ⟨ret_ii H.out.1 H.out.2, hb.alloc hb.size _⟩
    · have Y := Lib.hid (spec_syear_no y hy)
      have H := Lib.hid (show 0 = lyN s y ∧ 2 = spE s y from ⟨(if_neg (fun h => hy h.2)).symm, (if_neg (fun h => hy h.2)).symm⟩)
      clear hs hy
      go_enter Try.func39, Try.ntmps39
      go_wp2_with fail
      refine (S.out _).mono ?_
      rintro e w1 ⟨rfl, rfl⟩
      go_wp2_with fail
      refine (Y.out _).mono ?_
      rintro e w1 ⟨rfl, rfl⟩
      go_wp2_with fail
      go_ret2
      exact ⟨ret_ii H.out.1 H.out.2, Below.refl _ _⟩
  · have S := Lib.hid (spec_style_no s hs)
    have H := Lib.hid (show 0 = lyN s y ∧ 2 = spE s y from ⟨(if_neg (fun h => hs h.1)).symm, (if_neg (fun h => hs h.1)).symm⟩)
    clear hs
    go_enter Try.func39, Try.ntmps39
    go_wp2_with fail
    refine (S.out _).mono ?_
    rintro e w1 ⟨rfl, rfl⟩
    go_wp2_with fail
    go_ret2
    exact ⟨ret_ii H.out.1 H.out.2, Below.refl _ _⟩

set_option maxHeartbeats 1000000 in
theorem spec_YearOn (s n : Int) (w : World) : Calls Try.prog 18 #[.int .i64 s, .int .i64 n] w (Two (yoN s n) (yoE s n) w) := by
  by_cases hs : isS s
  · have S := Lib.hid (spec_style_yes s hs)
    by_cases hn : isDay n
    · have D := Lib.hid (spec_day_yes n hn)
      have O := Lib.hid (spec_on6 s n hs hn.1 hn.2)
      have hok : yoOk s n := ⟨hs, hn.1, hn.2⟩
      cases ht : told s n
      · have H := Lib.hid (show 0 = yoN s n ∧ 4 = yoE s n from by
          refine ⟨?_, ((if_pos hok).trans (if_neg (by rw [ht]; simp))).symm⟩
          rcases on_cases s n with ⟨y, -, -, h⟩ | ⟨-, h, -⟩
          · rw [ht] at h; cases h
          · exact ((if_pos hok).trans h).symm)
        rw [ht] at O
        clear hs hn hok ht
        generalize on s n = y at O
        go_enter Try.func18, Try.ntmps18
        go_wp2_with fail
        refine (S.out _).mono ?_
        rintro e w1 ⟨rfl, rfl⟩
        go_wp2_with fail
        refine (D.out _).mono ?_
        rintro e w1 ⟨rfl, rfl⟩
        go_wp2_with fail
        refine (O.out _).mono ?_
        rintro e w1 ⟨rfl, hb⟩
        go_wp2_with fail
        go_ret2
        exact ⟨ret_ii H.out.1 H.out.2, hb⟩
      · have H := Lib.hid (show on s n = yoN s n ∧ 0 = yoE s n from ⟨(if_pos hok).symm, ((if_pos hok).trans (if_pos ht)).symm⟩)
        rw [ht] at O
        clear hs hn hok ht
        generalize on s n = y at O H
        go_enter Try.func18, Try.ntmps18
        go_wp2_with fail
        refine (S.out _).mono ?_
        rintro e w1 ⟨rfl, rfl⟩
        go_wp2_with fail
        refine (D.out _).mono ?_
        rintro e w1 ⟨rfl, rfl⟩
        go_wp2_with fail
        refine (O.out _).mono ?_
        rintro e w1 ⟨rfl, hb⟩
        go_wp2_with fail
        go_ret2
        exact ⟨ret_ii H.out.1 H.out.2, hb⟩
    · have D := Lib.hid (spec_day_no n hn)
      have H := Lib.hid (show 0 = yoN s n ∧ 2 = yoE s n from ⟨(if_neg (fun h => hn h.2)).symm, (if_neg (fun h => hn h.2)).symm⟩)
      clear hs hn
      go_enter Try.func18, Try.ntmps18
      go_wp2_with fail
      refine (S.out _).mono ?_
      rintro e w1 ⟨rfl, rfl⟩
      go_wp2_with fail
      refine (D.out _).mono ?_
      rintro e w1 ⟨rfl, rfl⟩
      go_wp2_with fail
      go_ret2
      exact ⟨ret_ii H.out.1 H.out.2, Below.refl _ _⟩
  · have S := Lib.hid (spec_style_no s hs)
    have H := Lib.hid (show 0 = yoN s n ∧ 2 = yoE s n from ⟨(if_neg (fun h => hs h.1)).symm, (if_neg (fun h => hs h.1)).symm⟩)
    clear hs
    go_enter Try.func18, Try.ntmps18
    go_wp2_with fail
    refine (S.out _).mono ?_
    rintro e w1 ⟨rfl, rfl⟩
    go_wp2_with fail
    go_ret2
    exact ⟨ret_ii H.out.1 H.out.2, Below.refl _ _⟩

theorem yd_out {a b n v c : Int} (h : ydN a b n = v) (h' : ydE a b n = c) : v = ydN a b n ∧ c = ydE a b n := ⟨h.symm, h'.symm⟩
set_option maxHeartbeats 2000000 in
theorem spec_YearDifference (a b n : Int) (w : World) : Calls Try.prog 24 #[.int .i64 a, .int .i64 b, .int .i64 n] w (Two (ydN a b n) (ydE a b n) w) := by
  by_cases ha : isS a
  · have S := Lib.hid (spec_style_yes a ha)
    by_cases hb : isS b
    · have T := Lib.hid (spec_style_yes b hb)
      by_cases hn : isDay n
      · have D := Lib.hid (spec_day_yes n hn)
        have OA := Lib.hid (spec_on6 a n ha hn.1 hn.2)
        have OB := Lib.hid (spec_on6 b n hb hn.1 hn.2)
        have hok : ydOk a b n := ⟨ha, hb, hn.1, hn.2⟩
        obtain ⟨p0, p1⟩ := on_bd a n
        obtain ⟨q0, q1⟩ := on_bd b n
        have HH : Hid ((told a n = true ∧ told b n = true ∧ on b n - on a n = ydN a b n ∧ 0 = ydE a b n) ∨ (told a n = false ∧ 0 = ydN a b n ∧ 4 = ydE a b n) ∨ (told a n = true ∧ told b n = false ∧ 0 = ydN a b n ∧ 4 = ydE a b n)) := by
          cases ta : told a n
          · refine .inr (.inl ⟨rfl, (if_neg (fun h => by rw [ta] at h; simp at h)).symm, ((if_pos hok).trans (if_neg (fun h => by rw [ta] at h; simp at h))).symm⟩)
          · cases tb : told b n
            · refine .inr (.inr ⟨rfl, rfl, (if_neg (fun h => by rw [tb] at h; simp at h)).symm, ((if_pos hok).trans (if_neg (fun h => by rw [tb] at h; simp at h))).symm⟩)
            · exact .inl ⟨rfl, rfl, (if_pos ⟨hok, ta, tb⟩).symm, ((if_pos hok).trans (if_pos ⟨ta, tb⟩)).symm⟩
        clear hok ha hb hn
        generalize told a n = ta at *
        generalize told b n = tb at *
        generalize on a n = ya at *
        generalize on b n = yb at *
        rcases HH.out with ⟨rfl, rfl, h1, h2⟩ | ⟨rfl, h1, h2⟩ | ⟨rfl, rfl, h1, h2⟩
        · have H := Lib.hid (And.intro h1 h2)
          clear HH h1 h2
          go_enter Try.func24, Try.ntmps24
          go_wp2_with fail
          refine (S.out _).mono ?_
          rintro e w1 ⟨rfl, rfl⟩
          go_wp2_with fail
          refine (T.out _).mono ?_
          rintro e w1 ⟨rfl, rfl⟩
          go_wp2_with fail
          refine (D.out _).mono ?_
          rintro e w1 ⟨rfl, rfl⟩
          go_wp2_with fail
          refine (OA.out _).mono ?_
          rintro e w1 ⟨rfl, hb1⟩
          go_wp2_with fail
          refine (OB.out _).mono ?_
          rintro e w2 ⟨rfl, hb2⟩
          go_wp2_with fail
          go_ret2
          exact ⟨ret_ii H.out.1 H.out.2, hb1.trans (hb2.mono hb1.size)⟩
        · have H := Lib.hid (And.intro h1 h2)
          clear HH h1 h2
          go_enter Try.func24, Try.ntmps24
          go_wp2_with fail
          refine (S.out _).mono ?_
          rintro e w1 ⟨rfl, rfl⟩
          go_wp2_with fail
          refine (T.out _).mono ?_
          rintro e w1 ⟨rfl, rfl⟩
          go_wp2_with fail
          refine (D.out _).mono ?_
          rintro e w1 ⟨rfl, rfl⟩
          go_wp2_with fail
          refine (OA.out _).mono ?_
          rintro e w1 ⟨rfl, hb1⟩
          go_wp2_with fail
          refine (OB.out _).mono ?_
          rintro e w2 ⟨rfl, hb2⟩
          go_wp2_with fail
          go_ret2
          exact ⟨ret_ii H.out.1 H.out.2, hb1.trans (hb2.mono hb1.size)⟩
        · have H := Lib.hid (And.intro h1 h2)
          clear HH h1 h2
          go_enter Try.func24, Try.ntmps24
          go_wp2_with fail
          refine (S.out _).mono ?_
          rintro e w1 ⟨rfl, rfl⟩
          go_wp2_with fail
          refine (T.out _).mono ?_
          rintro e w1 ⟨rfl, rfl⟩
          go_wp2_with fail
          refine (D.out _).mono ?_
          rintro e w1 ⟨rfl, rfl⟩
          go_wp2_with fail
          refine (OA.out _).mono ?_
          rintro e w1 ⟨rfl, hb1⟩
          go_wp2_with fail
          refine (OB.out _).mono ?_
          rintro e w2 ⟨rfl, hb2⟩
          go_wp2_with fail
          go_ret2
          exact ⟨ret_ii H.out.1 H.out.2, hb1.trans (hb2.mono hb1.size)⟩
      · have D := Lib.hid (spec_day_no n hn)
        have H := Lib.hid (yd_out (a := a) (b := b) (n := n) (if_neg (fun h => hn h.1.2.2)) (if_neg (fun h => hn h.2.2)))
        clear ha hb hn
        go_enter Try.func24, Try.ntmps24
        go_wp2_with fail
        refine (S.out _).mono ?_
        rintro e w1 ⟨rfl, rfl⟩
        go_wp2_with fail
        refine (T.out _).mono ?_
        rintro e w1 ⟨rfl, rfl⟩
        go_wp2_with fail
        refine (D.out _).mono ?_
        rintro e w1 ⟨rfl, rfl⟩
        go_wp2_with fail
        go_ret2
        exact ⟨ret_ii H.out.1 H.out.2, Below.refl _ _⟩
    · have T := Lib.hid (spec_style_no b hb)
      have H := Lib.hid (yd_out (a := a) (b := b) (n := n) (if_neg (fun h => hb h.1.2.1)) (if_neg (fun h => hb h.2.1)))
      clear ha hb
      go_enter Try.func24, Try.ntmps24
      go_wp2_with fail
      refine (S.out _).mono ?_
      rintro e w1 ⟨rfl, rfl⟩
      go_wp2_with fail
      refine (T.out _).mono ?_
      rintro e w1 ⟨rfl, rfl⟩
      go_wp2_with fail
      go_ret2
      exact ⟨ret_ii H.out.1 H.out.2, Below.refl _ _⟩
  · have S := Lib.hid (spec_style_no a ha)
    have H := Lib.hid (yd_out (a := a) (b := b) (n := n) (if_neg (fun h => ha h.1.1)) (if_neg (fun h => ha h.1)))
    clear ha
    go_enter Try.func24, Try.ntmps24
    go_wp2_with fail
    refine (S.out _).mono ?_
    rintro e w1 ⟨rfl, rfl⟩
    go_wp2_with fail
    go_ret2
    exact ⟨ret_ii H.out.1 H.out.2, Below.refl _ _⟩

end Go.Proofs.Ytigjpalbaapkkaa.Sty
