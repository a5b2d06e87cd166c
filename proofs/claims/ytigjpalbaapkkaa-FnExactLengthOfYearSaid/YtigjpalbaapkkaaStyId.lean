/- Contracts of impl's YearSpan, YearOn, YearDifference, LengthOfYear. -/
import Derived.Test.YtigjpalbaapkkaaStyIc
namespace Go.Proofs.Ytigjpalbaapkkaa.Sty
open Go.RowKit
open Go.Proofs.Ytigjpalbaapkkaa.Eas (isY It)
open Go.Proofs.Ytigjpalbaapkkaa.Fea (yr yr_isY bs isDay)

/-- What the map holds for a style. -/
def sV (s : Int) : Value := stV s.toNat
theorem StMap.atS {w : World} {b : Nat} (h : StMap w b) (s : Int) (hs : isS s) : (Instr.lookup 84 (.map (some b)) (.int .i64 s) false).run Try.prog w = .ok (sV s) w := by
  obtain ⟨h0, h1⟩ := hs
  obtain ⟨j, rfl⟩ : ∃ j : Nat, s = j := ⟨s.toNat, by omega⟩
  exact h.at_ j (by omega)
theorem impl_rspan (s : Int) (hs : isS s) (y : Int) (hy : isT y) (w : World) : Calls Try.prog 79 #[sV s, .int .i64 y] w (SpI (bg s y) (bg s (y + 1) - 1) w) := by
  obtain ⟨h0, h1⟩ := hs
  obtain ⟨j, rfl⟩ : ∃ j : Nat, s = j := ⟨s.toNat, by omega⟩
  exact impl_rspan_nat j (by omega) y hy w
theorem impl_ryear (s : Int) (hs : isS s) (n : Int) (hn : isDay n) (w : World) : Calls Try.prog 72 #[sV s, .int .i64 n] w (NT (on s n) (told s n) w) := by
  obtain ⟨h0, h1⟩ := hs
  obtain ⟨j, rfl⟩ : ∃ j : Nat, s = j := ⟨s.toNat, by omega⟩
  exact impl_ryearOn j (by omega) n hn w

set_option maxHeartbeats 1000000 in
theorem impl_YearSpan (s y : Int) (w : World) : Calls Try.prog 32 #[.int .i64 s, .int .i64 y] w (SpO (spF s y) (spT s y) (spE s y) w) := by
  by_cases hs : isS s
  · have S := Lib.hid (impl_style_yes s hs)
    by_cases hy : isT y
    · have Y := Lib.hid (impl_syear_yes y hy)
      have R := Lib.hid impl_rules
      have L := Lib.hid (fun (w : World) (b : Nat) (h : StMap w b) => h.atS s hs)
      have P := Lib.hid (impl_rspan s hs y hy)
      have H := Lib.hid (show bg s y = spF s y ∧ bg s (y + 1) - 1 = spT s y ∧ 0 = spE s y from ⟨(if_pos ⟨hs, hy⟩).symm, (if_pos ⟨hs, hy⟩).symm, (if_pos ⟨hs, hy⟩).symm⟩)
      clear hs hy
      generalize sV s = v at *
      generalize bg s y = a at *
      generalize bg s (y + 1) - 1 = b at *
      have S0 := (St.start w).alloc 40 #[.int .i64 0, .int .i64 0]
      go_enter Try.func32, Try.ntmps32
      go_wp2_with fail
      refine (S.out _).mono ?_
      rintro e w1 ⟨rfl, rfl⟩
      go_wp2_with fail
      refine (Y.out _).mono ?_
      rintro e w1 ⟨rfl, rfl⟩
      go_wp2_with fail
      refine (R.out _).mono ?_
      rintro e w1 ⟨B, rfl, hm, hB, hb⟩
      have hl := L.out _ _ hm
      have S1 := S0.call hb
      clear hm
      go_wp2_with fail
      refine (P.out _).mono ?_
      rintro e w2 ⟨rfl, hb2⟩
      have S2 := S1.call hb2
      obtain ⟨c0, c1, f0, f1⟩ := S2.styS
      have hbb := (S2.bel.setCell (p := ⟨w.heap.size, 0, none⟩) (Nat.le_refl _) (.int .i64 a)).setCell (p := ⟨w.heap.size, 1, none⟩) (Nat.le_refl _) (.int .i64 b)
      clear S0 S1 S2 hb hb2 hl
      go_wp2_with fail
      refine bodyPost_ret (v := .tuple #[.agg #[.int .i64 a, .int .i64 b], .int .i64 0]) (by simp [results, Try.results32, go_sem, c0, c1]) rfl ⟨ret_sp H.out, hbb⟩
    · have Y := Lib.hid (impl_syear_no y hy)
      have H := Lib.hid (show 0 = spF s y ∧ 0 = spT s y ∧ 2 = spE s y from ⟨(if_neg (fun h => hy h.2)).symm, (if_neg (fun h => hy h.2)).symm, (if_neg (fun h => hy h.2)).symm⟩)
      clear hs hy
      have hbb := (((Below.refl w.heap.size w).alloc (Nat.le_refl _) (.cells #[.int .i64 0, .int .i64 0] 40)).setCell (p := ⟨w.heap.size, 0, none⟩) (Nat.le_refl _) (.int .i64 0)).setCell (p := ⟨w.heap.size, 1, none⟩) (Nat.le_refl _) (.int .i64 0)
      go_enter Try.func32, Try.ntmps32
      go_wp2_with fail
      refine (S.out _).mono ?_
      rintro e w1 ⟨rfl, rfl⟩
      go_wp2_with fail
      refine (Y.out _).mono ?_
      rintro e w1 ⟨rfl, rfl⟩
      go_wp2_with fail
      refine bodyPost_ret (v := .tuple #[.agg #[.int .i64 0, .int .i64 0], .int .i64 2]) (by simp [results, Try.results32, go_sem]) rfl ⟨ret_sp H.out, ?_⟩
      first | exact hbb | exact Below.refl _ _ | exact (Below.refl _ _).alloc (Nat.le_refl _) _
  · have S := Lib.hid (impl_style_no s hs)
    have H := Lib.hid (show 0 = spF s y ∧ 0 = spT s y ∧ 2 = spE s y from ⟨(if_neg (fun h => hs h.1)).symm, (if_neg (fun h => hs h.1)).symm, (if_neg (fun h => hs h.1)).symm⟩)
    clear hs
    have hbb := (((Below.refl w.heap.size w).alloc (Nat.le_refl _) (.cells #[.int .i64 0, .int .i64 0] 40)).setCell (p := ⟨w.heap.size, 0, none⟩) (Nat.le_refl _) (.int .i64 0)).setCell (p := ⟨w.heap.size, 1, none⟩) (Nat.le_refl _) (.int .i64 0)
    go_enter Try.func32, Try.ntmps32
    go_wp2_with fail
    refine (S.out _).mono ?_
    rintro e w1 ⟨rfl, rfl⟩
    go_wp2_with fail
    refine bodyPost_ret (v := .tuple #[.agg #[.int .i64 0, .int .i64 0], .int .i64 2]) (by simp [results, Try.results32, go_sem]) rfl ⟨ret_sp H.out, ?_⟩
    first | exact hbb | exact Below.refl _ _ | exact (Below.refl _ _).alloc (Nat.le_refl _) _

theorem impl_length (f t : Int) (f0 : -1000000 ≤ f) (f1 : f ≤ 1000000) (t0 : -1000000 ≤ t) (t1 : t ≤ 1000000) (w : World) : Calls Try.prog 89 #[.agg #[.int .i64 f, .int .i64 t]] w (It (t - f + 1) w) := by
  go_enter Try.func89, Try.ntmps89
  go_wp2
  go_ret
  exact ⟨rfl, (Below.refl _ _).alloc (Nat.le_refl _) _⟩

set_option maxHeartbeats 1000000 in
theorem impl_LengthOfYear (s y : Int) (w : World) : Calls Try.prog 38 #[.int .i64 s, .int .i64 y] w (Two (lyN s y) (spE s y) w) := by
  have P := Lib.hid (impl_YearSpan s y)
  by_cases h : spOk s y
  · have hf : spF s y = bg s y := if_pos h
    have ht : spT s y = bg s (y + 1) - 1 := if_pos h
    have he : spE s y = 0 := if_pos h
    have H := Lib.hid (show bg s (y + 1) - 1 - bg s y + 1 = lyN s y from (show lyN s y = bg s (y + 1) - bg s y from if_pos h) ▸ (by omega))
    obtain ⟨a0, a1⟩ := bg_bd2 s y h.2.1 (by have := h.2.2; omega)
    obtain ⟨b0, b1⟩ := bg_bd2 s (y + 1) (by have := h.2.1; omega) (by have := h.2.2; omega)
    rw [hf, ht, he] at P
    rw [he]
    have Q := Lib.hid (impl_length (bg s y) (bg s (y + 1) - 1) (by omega) (by omega) (by omega) (by omega))
    clear h hf ht he
    generalize bg s y = a at *
    generalize bg s (y + 1) - 1 = b at *
    go_enter Try.func38, Try.ntmps38
    go_wp2_with fail
    refine (P.out _).mono ?_
    rintro e w1 ⟨rfl, hb⟩
    have k := Blk.new w1 40 #[.int .i64 a, .int .i64 b]
    have hb2 := hb.alloc hb.size (.cells #[.int .i64 a, .int .i64 b] 40)
    go_wp2_with fail
    refine (Q.out _).mono ?_
    rintro e w2 ⟨rfl, hb3⟩
    go_wp2_with fail
    go_ret2
    exact ⟨ret_ii H.out rfl, hb2.trans (hb3.mono hb2.size)⟩
  · have hf : spF s y = 0 := if_neg h
    have ht : spT s y = 0 := if_neg h
    have he : spE s y = 2 := if_neg h
    have H := Lib.hid (show 0 = lyN s y from (if_neg h).symm)
    rw [hf, ht, he] at P
    rw [he]
    clear h hf ht he
    go_enter Try.func38, Try.ntmps38
    go_wp2_with fail
    refine (P.out _).mono ?_
    rintro e w1 ⟨rfl, hb⟩
    have hb2 := hb.alloc hb.size (.cells #[.int .i64 0, .int .i64 0] 40)
    go_wp2_with fail
    go_ret2
    exact ⟨ret_ii H.out rfl, hb2⟩

set_option maxHeartbeats 1000000 in
theorem impl_YearOn (s n : Int) (w : World) : Calls Try.prog 17 #[.int .i64 s, .int .i64 n] w (Two (yoN s n) (yoE s n) w) := by
  by_cases hs : isS s
  · have S := Lib.hid (impl_style_yes s hs)
    by_cases hn : isDay n
    · have D := Lib.hid (impl_day_yes n hn)
      have R := Lib.hid impl_rules
      have L := Lib.hid (fun (w : World) (b : Nat) (h : StMap w b) => h.atS s hs)
      have O := Lib.hid (impl_ryear s hs n hn)
      have hok : yoOk s n := ⟨hs, hn.1, hn.2⟩
      generalize sV s = v at *
      cases ht : told s n
      · have H := Lib.hid (show 0 = yoN s n ∧ 4 = yoE s n from by
          refine ⟨?_, ((if_pos hok).trans (if_neg (by rw [ht]; simp))).symm⟩
          rcases on_cases s n with ⟨y, -, -, h⟩ | ⟨-, h, -⟩
          · rw [ht] at h; cases h
          · exact ((if_pos hok).trans h).symm)
        rw [ht] at O
        clear hs hn hok ht
        generalize on s n = y at O
        go_enter Try.func17, Try.ntmps17
        go_wp2_with fail
        refine (S.out _).mono ?_
        rintro e w1 ⟨rfl, rfl⟩
        go_wp2_with fail
        refine (D.out _).mono ?_
        rintro e w1 ⟨rfl, rfl⟩
        go_wp2_with fail
        refine (R.out _).mono ?_
        rintro e w1 ⟨B, rfl, hm, hB, hb⟩
        have hl := L.out _ _ hm
        clear hm
        go_wp2_with fail
        refine (O.out _).mono ?_
        rintro e w2 ⟨rfl, hb2⟩
        clear hl
        go_wp2_with fail
        go_ret2
        exact ⟨ret_ii H.out.1 H.out.2, hb.trans (hb2.mono hb.size)⟩
      · have H := Lib.hid (show on s n = yoN s n ∧ 0 = yoE s n from ⟨(if_pos hok).symm, ((if_pos hok).trans (if_pos ht)).symm⟩)
        rw [ht] at O
        clear hs hn hok ht
        generalize on s n = y at O H
        go_enter Try.func17, Try.ntmps17
        go_wp2_with fail
        refine (S.out _).mono ?_
        rintro e w1 ⟨rfl, rfl⟩
        go_wp2_with fail
        refine (D.out _).mono ?_
        rintro e w1 ⟨rfl, rfl⟩
        go_wp2_with fail
        refine (R.out _).mono ?_
        rintro e w1 ⟨B, rfl, hm, hB, hb⟩
        have hl := L.out _ _ hm
        clear hm
        go_wp2_with fail
        refine (O.out _).mono ?_
        rintro e w2 ⟨rfl, hb2⟩
        clear hl
        go_wp2_with fail
        go_ret2
        exact ⟨ret_ii H.out.1 H.out.2, hb.trans (hb2.mono hb.size)⟩
    · have D := Lib.hid (impl_day_no n hn)
      have H := Lib.hid (show 0 = yoN s n ∧ 2 = yoE s n from ⟨(if_neg (fun h => hn h.2)).symm, (if_neg (fun h => hn h.2)).symm⟩)
      clear hs hn
      go_enter Try.func17, Try.ntmps17
      go_wp2_with fail
      refine (S.out _).mono ?_
      rintro e w1 ⟨rfl, rfl⟩
      go_wp2_with fail
      refine (D.out _).mono ?_
      rintro e w1 ⟨rfl, rfl⟩
      go_wp2_with fail
      go_ret2
      exact ⟨ret_ii H.out.1 H.out.2, Below.refl _ _⟩
  · have S := Lib.hid (impl_style_no s hs)
    have H := Lib.hid (show 0 = yoN s n ∧ 2 = yoE s n from ⟨(if_neg (fun h => hs h.1)).symm, (if_neg (fun h => hs h.1)).symm⟩)
    clear hs
    go_enter Try.func17, Try.ntmps17
    go_wp2_with fail
    refine (S.out _).mono ?_
    rintro e w1 ⟨rfl, rfl⟩
    go_wp2_with fail
    go_ret2
    exact ⟨ret_ii H.out.1 H.out.2, Below.refl _ _⟩

set_option maxHeartbeats 2000000 in
theorem impl_YearDifference (a b n : Int) (w : World) : Calls Try.prog 23 #[.int .i64 a, .int .i64 b, .int .i64 n] w (Two (ydN a b n) (ydE a b n) w) := by
  by_cases ha : isS a
  · have S := Lib.hid (impl_style_yes a ha)
    by_cases hb : isS b
    · have T := Lib.hid (impl_style_yes b hb)
      by_cases hn : isDay n
      · have D := Lib.hid (impl_day_yes n hn)
        have R := Lib.hid impl_rules
        have LA := Lib.hid (fun (w : World) (k : Nat) (h : StMap w k) => h.atS a ha)
        have LB := Lib.hid (fun (w : World) (k : Nat) (h : StMap w k) => h.atS b hb)
        have OA := Lib.hid (impl_ryear a ha n hn)
        have OB := Lib.hid (impl_ryear b hb n hn)
        have hok : ydOk a b n := ⟨ha, hb, hn.1, hn.2⟩
        obtain ⟨p0, p1⟩ := on_bd a n
        obtain ⟨q0, q1⟩ := on_bd b n
        have HH : Hid ((told a n = true ∧ told b n = true ∧ on b n - on a n = ydN a b n ∧ 0 = ydE a b n) ∨ (told a n = false ∧ 0 = ydN a b n ∧ 4 = ydE a b n) ∨ (told a n = true ∧ told b n = false ∧ 0 = ydN a b n ∧ 4 = ydE a b n)) := by
          cases ta : told a n
          · refine .inr (.inl ⟨rfl, (if_neg (fun h => by rw [ta] at h; simp at h)).symm, ((if_pos hok).trans (if_neg (fun h => by rw [ta] at h; simp at h))).symm⟩)
          · cases tb : told b n
            · refine .inr (.inr ⟨rfl, rfl, (if_neg (fun h => by rw [tb] at h; simp at h)).symm, ((if_pos hok).trans (if_neg (fun h => by rw [tb] at h; simp at h))).symm⟩)
            · exact .inl ⟨rfl, rfl, (if_pos ⟨hok, ta, tb⟩).symm, ((if_pos hok).trans (if_pos ⟨ta, tb⟩)).symm⟩
        clear ha hb hn hok
        generalize sV a = va at *
        generalize sV b = vb at *
        generalize told a n = ta at OA HH
        generalize told b n = tb at OB HH
        generalize on a n = x at *
        generalize on b n = y at *
        rcases HH.out with ⟨rfl, rfl, hv, hc⟩ | ⟨rfl, hv, hc⟩ | ⟨rfl, rfl, hv, hc⟩
        · have HV := Lib.hid (And.intro hv hc)
          clear hv hc HH
          go_enter Try.func23, Try.ntmps23
          go_wp2_with fail
          refine (S.out _).mono ?_
          rintro e w1 ⟨rfl, rfl⟩
          go_wp2_with fail
          refine (T.out _).mono ?_
          rintro e w1 ⟨rfl, rfl⟩
          go_wp2_with fail
          refine (D.out _).mono ?_
          rintro e w1 ⟨rfl, rfl⟩
          go_wp2_with fail
          refine (R.out _).mono ?_
          rintro e w1 ⟨B, rfl, hm, hB, hb⟩
          have hl := LA.out _ _ hm
          go_wp2_with fail
          refine (OA.out _).mono ?_
          rintro e w2 ⟨rfl, hb2⟩
          clear hl
          have hm2 := hm.below hb2 hm.lt
          have hl := LB.out _ _ hm2
          clear hm hm2
          go_wp2_with fail
          refine (OB.out _).mono ?_
          rintro e w3 ⟨rfl, hb3⟩
          clear hl
          have hb4 := hb.trans (hb2.mono hb.size)
          go_wp2_with fail
          go_ret2
          exact ⟨ret_ii HV.out.1 HV.out.2, hb4.trans (hb3.mono hb4.size)⟩
        · have HV := Lib.hid (And.intro hv hc)
          clear hv hc HH
          go_enter Try.func23, Try.ntmps23
          go_wp2_with fail
          refine (S.out _).mono ?_
          rintro e w1 ⟨rfl, rfl⟩
          go_wp2_with fail
          refine (T.out _).mono ?_
          rintro e w1 ⟨rfl, rfl⟩
          go_wp2_with fail
          refine (D.out _).mono ?_
          rintro e w1 ⟨rfl, rfl⟩
          go_wp2_with fail
          refine (R.out _).mono ?_
          rintro e w1 ⟨B, rfl, hm, hB, hb⟩
          have hl := LA.out _ _ hm
          go_wp2_with fail
          refine (OA.out _).mono ?_
          rintro e w2 ⟨rfl, hb2⟩
          clear hl
          have hm2 := hm.below hb2 hm.lt
          have hl := LB.out _ _ hm2
          clear hm hm2
          go_wp2_with fail
          refine (OB.out _).mono ?_
          rintro e w3 ⟨rfl, hb3⟩
          clear hl
          have hb4 := hb.trans (hb2.mono hb.size)
          go_wp2_with fail
          go_ret2
          exact ⟨ret_ii HV.out.1 HV.out.2, hb4.trans (hb3.mono hb4.size)⟩
        · have HV := Lib.hid (And.intro hv hc)
          clear hv hc HH
          go_enter Try.func23, Try.ntmps23
          go_wp2_with fail
          refine (S.out _).mono ?_
          rintro e w1 ⟨rfl, rfl⟩
          go_wp2_with fail
          refine (T.out _).mono ?_
          rintro e w1 ⟨rfl, rfl⟩
          go_wp2_with fail
          refine (D.out _).mono ?_
          rintro e w1 ⟨rfl, rfl⟩
          go_wp2_with fail
          refine (R.out _).mono ?_
          rintro e w1 ⟨B, rfl, hm, hB, hb⟩
          have hl := LA.out _ _ hm
          go_wp2_with fail
          refine (OA.out _).mono ?_
          rintro e w2 ⟨rfl, hb2⟩
          clear hl
          have hm2 := hm.below hb2 hm.lt
          have hl := LB.out _ _ hm2
          clear hm hm2
          go_wp2_with fail
          refine (OB.out _).mono ?_
          rintro e w3 ⟨rfl, hb3⟩
          clear hl
          have hb4 := hb.trans (hb2.mono hb.size)
          go_wp2_with fail
          go_ret2
          exact ⟨ret_ii HV.out.1 HV.out.2, hb4.trans (hb3.mono hb4.size)⟩
      · have D := Lib.hid (impl_day_no n hn)
        have H := Lib.hid (show 0 = ydN a b n ∧ 2 = ydE a b n from ⟨(if_neg (fun h => hn h.1.2.2)).symm, (if_neg (fun h => hn h.2.2)).symm⟩)
        clear ha hb hn
        go_enter Try.func23, Try.ntmps23
        go_wp2_with fail
        refine (S.out _).mono ?_
        rintro e w1 ⟨rfl, rfl⟩
        go_wp2_with fail
        refine (T.out _).mono ?_
        rintro e w1 ⟨rfl, rfl⟩
        go_wp2_with fail
        refine (D.out _).mono ?_
        rintro e w1 ⟨rfl, rfl⟩
        go_wp2_with fail
        go_ret2
        exact ⟨ret_ii H.out.1 H.out.2, Below.refl _ _⟩
    · have T := Lib.hid (impl_style_no b hb)
      have H := Lib.hid (show 0 = ydN a b n ∧ 2 = ydE a b n from ⟨(if_neg (fun h => hb h.1.2.1)).symm, (if_neg (fun h => hb h.2.1)).symm⟩)
      clear ha hb
      go_enter Try.func23, Try.ntmps23
      go_wp2_with fail
      refine (S.out _).mono ?_
      rintro e w1 ⟨rfl, rfl⟩
      go_wp2_with fail
      refine (T.out _).mono ?_
      rintro e w1 ⟨rfl, rfl⟩
      go_wp2_with fail
      go_ret2
      exact ⟨ret_ii H.out.1 H.out.2, Below.refl _ _⟩
  · have S := Lib.hid (impl_style_no a ha)
    have H := Lib.hid (show 0 = ydN a b n ∧ 2 = ydE a b n from ⟨(if_neg (fun h => ha h.1.1)).symm, (if_neg (fun h => ha h.1)).symm⟩)
    clear ha
    go_enter Try.func23, Try.ntmps23
    go_wp2_with fail
    refine (S.out _).mono ?_
    rintro e w1 ⟨rfl, rfl⟩
    go_wp2_with fail
    go_ret2
    exact ⟨ret_ii H.out.1 H.out.2, Below.refl _ _⟩

end Go.Proofs.Ytigjpalbaapkkaa.Sty
