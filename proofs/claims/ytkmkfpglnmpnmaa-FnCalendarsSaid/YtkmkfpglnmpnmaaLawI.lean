/- The walk of the law FnCalendars. -/
import Derived.Test.YtkmkfpglnmpnmaaLawG
import Derived.Test.YtkmkfpglnmpnmaaPlcK
import Derived.Deep.RegionHeld3
namespace Go.Proofs.Ytkmkfpglnmpnmaa.Plc
open Go.RowKit

set_option maxHeartbeats 400000 in
theorem laws_big (A : Option Addr) (len cap : Nat) (hm : len ≤ maxLen) (w : World) :
    Calls Try.prog 24 #[.slice A len cap] w fun e w' => e = .returned (.bool (decide (4096 < len))) ∧ w = w' := by
  unfold maxLen at hm
  go_enter Try.func24, Try.ntmps24
  go_wp2_with fail
  go_ret
  exact ⟨ret_bool (by simp; try omega), rfl⟩

theorem place_cases (R y m d : Int) : (Loc.dErr R y m d = 0 ∧ Loc.lErr R y m d = 0 ∧ Loc.lB R y m d = true ∧ Loc.DateIs R (Loc.dNum R y m d) y m d 0) ∨ (Loc.dErr R y m d = 4 ∧ Loc.lErr R y m d = 0 ∧ Loc.lB R y m d = false) ∨ (Loc.dErr R y m d = 1 ∧ Loc.lErr R y m d = 1 ∧ Loc.lB R y m d = false) := by
  by_cases h : Loc.isCal R ∧ Loc.isD y m d
  · by_cases hl : Loc.isL R y m d
    · refine .inl ⟨?_, ?_, ?_, ?_⟩
      · unfold Loc.dErr; rw [if_pos h, if_pos hl]
      · unfold Loc.lErr; rw [if_pos h]
      · exact decide_eq_true ⟨h.1, h.2, hl⟩
      · have e : Loc.dNum R y m d = Loc.lnum R y m d := by unfold Loc.dNum; rw [if_pos h]
        rw [e]
        exact Loc.date_of_day h.1 hl
    · refine .inr (.inl ⟨?_, ?_, ?_⟩)
      · unfold Loc.dErr; rw [if_pos h, if_neg hl]
      · unfold Loc.lErr; rw [if_pos h]
      · exact decide_eq_false (fun k => hl k.2.2)
  · refine .inr (.inr ⟨?_, ?_, ?_⟩)
    · unfold Loc.dErr; rw [if_neg h]
    · unfold Loc.lErr; rw [if_neg h]
    · exact decide_eq_false (fun k => h ⟨k.1, k.2.1⟩)

theorem back_cases {R n y m d q : Int} (h : Loc.DateIs R n y m d q) : (q = 0 ∧ Loc.dNum R y m d = n ∧ Loc.dErr R y m d = 0) ∨ q ≠ 0 := by
  by_cases hq : q = 0
  · subst hq
    obtain ⟨h1, h2, h3, h4⟩ := Loc.day_of_date h
    refine .inl ⟨rfl, ?_, ?_⟩
    · unfold Loc.dNum; rw [if_pos ⟨h1, h2⟩]; exact h4
    · unfold Loc.dErr; rw [if_pos ⟨h1, h2⟩, if_pos h3]
  · exact .inr hq

theorem stEleven {L : List (Nat × TypeId × Array Value)} {w w' : World} {g3 g5 g7 : Nat} {R y m d : Int} (h : St L w w') (m3 : (g3, 35, #[.int .i64 R]) ∈ L) (m5 : (g5, 25, #[.int .i64 y, .int .i64 m, .int .i64 d]) ∈ L) (m7 : (g7, 25, #[.int .i64 y, .int .i64 m, .int .i64 d]) ∈ L) :
    w'.cell? ⟨g3, 0, none⟩ = some (.int .i64 R) ∧ w'.cell? ⟨g5, 0, none⟩ = some (.int .i64 y) ∧ w'.cell? ⟨g5, 1, none⟩ = some (.int .i64 m) ∧ w'.cell? ⟨g5, 2, none⟩ = some (.int .i64 d) ∧ w'.cell? ⟨g7, 0, none⟩ = some (.int .i64 y) ∧ w'.cell? ⟨g7, 1, none⟩ = some (.int .i64 m) ∧ w'.cell? ⟨g7, 2, none⟩ = some (.int .i64 d) ∧ St L w w' := by
  obtain ⟨a0, a1, a2⟩ := (h.blk _ m5).three
  obtain ⟨b0, b1, b2⟩ := (h.blk _ m7).three
  exact ⟨(h.blk _ m3).cell 0, a0, a1, a2, b0, b1, b2, h⟩

set_option maxRecDepth 100000 in
set_option maxHeartbeats 4000000 in
theorem walk_FnCalendars (A : Option Addr) (len cap : Nat) (zs : List Int) (W : World) (hrow : IsRow .u8 W A len cap zs) :
    Calls Try.prog 4 #[.slice A len cap] W (Bl true W) := by
  have hm : len ≤ maxLen := by
    rcases hrow with ⟨_, rfl, _⟩ | ⟨_, _, h1, h2, _⟩
    · exact Nat.zero_le _
    · omega
  have HR := Lib.hid hrow
  clear hrow
  have S := St.start W
  by_cases hbig : 4096 < len
  · go_enter Try.func4, Try.ntmps4
    go_wp2_with fail
    refine (laws_big A len cap hm _).mono ?_
    rintro e w1 ⟨rfl, rfl⟩
    go_wp2_with fail
    go_ret
    exact ⟨rfl, Below.refl _ _⟩
  go_enter Try.func4, Try.ntmps4
  go_wp2_with fail
  refine (laws_big A len cap hm _).mono ?_
  rintro e w1 ⟨rfl, rfl⟩
  go_wp2_with fail
  refine (spec_DrawLocalDate A len cap zs W _ HR.out S.bel).mono ?_
  rintro e w1 ⟨R, n, rfl, hb1⟩
  have S := (S.call hb1).alloc 35 #[.int .i64 R]
  go_wp2_with fail
  generalize w1.heap.size = D3 at S ⊢
  refine (impl_LocalDate R n _).mono ?_
  rintro e w2 ⟨y, m, d, q, rfl, hd, hb2⟩
  have S := (S.call hb2).alloc 25 #[.int .i64 y, .int .i64 m, .int .i64 d]
  have HD := Lib.hid hd
  clear hd
  have hne := hb2.size
  simp only [World.size_alloc] at hne
  have c3 := S.b1.cell 0
  simp only [List.getElem?_toArray, List.getElem?_cons_zero] at c3
  go_wp2_with fail
  generalize w2.heap.size = D5 at S c3 ⊢
  refine (spec_LocalDate R n _).mono ?_
  rintro e w3 ⟨y', m', d', q', rfl, hd', hb3⟩
  obtain ⟨rfl, rfl, rfl, rfl⟩ := HD.out.uniq hd'
  have S := (S.call hb3).alloc 25 #[.int .i64 y, .int .i64 m, .int .i64 d]
  clear c3 hd'
  go_wp2_with fail
  generalize w3.heap.size = D7 at S ⊢
  refine (spec_DrawLocalDay A len cap zs W _ HR.out S.bel).mono ?_
  rintro e w4 ⟨R2, y2, m2, d2, rfl, hb4⟩
  have S := ((S.call hb4).alloc 35 #[.int .i64 R2]).alloc 25 #[.int .i64 y2, .int .i64 m2, .int .i64 d2]
  simp only [World.size_alloc] at S
  go_wp2_with fail
  generalize w4.heap.size = D9 at S ⊢
  have CA := Lib.hid (impl_LocalDay R2 y2 m2 d2)
  have CB := Lib.hid (spec_LocalDay R2 y2 m2 d2)
  have CC := Lib.hid (impl_IsLocal R2 y2 m2 d2)
  have CD := Lib.hid (spec_IsLocal R2 y2 m2 d2)
  have H := Lib.hid (place_cases R2 y2 m2 d2)
  generalize Loc.dNum R2 y2 m2 d2 = N at CA CB H
  generalize Loc.dErr R2 y2 m2 d2 = E1 at CA CB H
  generalize Loc.lB R2 y2 m2 d2 = V at CC CD H
  generalize Loc.lErr R2 y2 m2 d2 = E3 at CC CD H
  refine (CA.out _).mono ?_
  rintro e w5 ⟨rfl, hb5⟩
  have S := S.call hb5
  have c9 := S.b1.cell 0
  simp only [List.getElem?_toArray, List.getElem?_cons_zero] at c9
  obtain ⟨a0, a1, a2⟩ := S.b0.three
  go_wp2_with fail
  refine (CB.out _).mono ?_
  rintro e w6 ⟨rfl, hb6⟩
  have S := S.call hb6
  clear c9 a0 a1 a2
  have c9 := S.b1.cell 0
  simp only [List.getElem?_toArray, List.getElem?_cons_zero] at c9
  obtain ⟨a0, a1, a2⟩ := S.b0.three
  go_wp2_with fail
  refine (CC.out _).mono ?_
  rintro e w7 ⟨rfl, hb7⟩
  have S := S.call hb7
  clear c9 a0 a1 a2
  have c9 := S.b1.cell 0
  simp only [List.getElem?_toArray, List.getElem?_cons_zero] at c9
  obtain ⟨a0, a1, a2⟩ := S.b0.three
  go_wp2_with fail
  refine (CD.out _).mono ?_
  rintro e w8 ⟨rfl, hb8⟩
  have S := S.call hb8
  clear c9 a0 a1 a2
  have I1 := Lib.hid (impl_isCal R)
  have I2 := Lib.hid (spec_isCal R)
  generalize icB R = b at I1 I2
  have S0 := S
  clear S hb1 hb2 hb3 hb4 hb5 hb6 hb7 hb8
  have S : St [(D9 + 1, 25, #[.int .i64 y2, .int .i64 m2, .int .i64 d2]), (D9, 35, #[.int .i64 R2]), (D7, 25, #[.int .i64 y, .int .i64 m, .int .i64 d]), (D5, 25, #[.int .i64 y, .int .i64 m, .int .i64 d]), (D3, 35, #[.int .i64 R])] W w8 := S0
  clear S0
  go_wp2_with fail
  go_region_held3 (fun w' => w'.cell? ⟨D3, 0, none⟩ = some (.int .i64 R) ∧ w'.cell? ⟨D5, 0, none⟩ = some (.int .i64 y) ∧ w'.cell? ⟨D5, 1, none⟩ = some (.int .i64 m) ∧ w'.cell? ⟨D5, 2, none⟩ = some (.int .i64 d) ∧ w'.cell? ⟨D7, 0, none⟩ = some (.int .i64 y) ∧ w'.cell? ⟨D7, 1, none⟩ = some (.int .i64 m) ∧ w'.cell? ⟨D7, 2, none⟩ = some (.int .i64 d) ∧ St [(D9 + 1, 25, #[.int .i64 y2, .int .i64 m2, .int .i64 d2]), (D9, 35, #[.int .i64 R2]), (D7, 25, #[.int .i64 y, .int .i64 m, .int .i64 d]), (D5, 25, #[.int .i64 y, .int .i64 m, .int .i64 d]), (D3, 35, #[.int .i64 R])] W w')
    (first | exact stEleven (S.drewN 1) (by simp) (by simp) (by simp) | (go_split_ands; exact stEleven (St.call (by assumption) hbq) (by simp) (by simp) (by simp)))
    (first
      | (go_at_call 43; refine (I1.out _).mono ?_; rintro e wq ⟨rfl, hbq⟩)
      | (go_at_call 44; refine (I2.out _).mono ?_; rintro e wq ⟨rfl, hbq⟩))
  all_goals
    have S2 : St [(D9 + 1, 25, #[.int .i64 y2, .int .i64 m2, .int .i64 d2]), (D9, 35, #[.int .i64 R2]), (D7, 25, #[.int .i64 y, .int .i64 m, .int .i64 d]), (D5, 25, #[.int .i64 y, .int .i64 m, .int .i64 d]), (D3, 35, #[.int .i64 R])] W wq := by go_split_ands; assumption
    have S := S2
    clear S2
    have HB := Lib.hid (back_cases HD.out)
    rcases H.out with ⟨rfl, rfl, rfl, hu⟩ | ⟨rfl, rfl, rfl⟩ | ⟨rfl, rfl, rfl⟩
    · have HU := Lib.hid hu
      clear hu H
      have c9 := S.b1.cell 0
      simp only [List.getElem?_toArray, List.getElem?_cons_zero] at c9
      go_wp2_with fail
      refine (impl_LocalDate R2 N _).mono ?_
      rintro e w10 ⟨y3, m3, d3, q3, rfl, hd3, hb10⟩
      obtain ⟨rfl, rfl, rfl, rfl⟩ := HU.out.uniq hd3
      have S := (S.call hb10).alloc 25 #[.int .i64 y2, .int .i64 m2, .int .i64 d2]
      clear hd3 HU c9
      obtain ⟨a0, a1, a2⟩ := S.b1.three
      rcases HB.out with ⟨rfl, eN, eE⟩ | hq
      · have CF := Lib.hid (impl_LocalDay R y m d)
        rw [eN, eE] at CF
        clear HB eN eE
        have c3 := (S.blk (D3, 35, #[.int .i64 R]) (by simp)).cell 0
        simp only [List.getElem?_toArray, List.getElem?_cons_zero] at c3
        obtain ⟨b0, b1, b2⟩ := (S.blk (D5, 25, #[.int .i64 y, .int .i64 m, .int .i64 d]) (by simp)).three
        go_wp2_with fail
        refine (CF.out _).mono ?_
        rintro e w11 ⟨rfl, hb11⟩
        have S := S.call hb11
        go_wp2_with fail
        go_ret
        exact ⟨ret_bool (by simp), S.bel⟩
      · clear HB
        go_wp2_with fail
        go_ret
        exact ⟨rfl, S.bel⟩
    · clear H
      rcases HB.out with ⟨rfl, eN, eE⟩ | hq
      · have CF := Lib.hid (impl_LocalDay R y m d)
        rw [eN, eE] at CF
        clear HB eN eE
        have c3 := (S.blk (D3, 35, #[.int .i64 R]) (by simp)).cell 0
        simp only [List.getElem?_toArray, List.getElem?_cons_zero] at c3
        obtain ⟨b0, b1, b2⟩ := (S.blk (D5, 25, #[.int .i64 y, .int .i64 m, .int .i64 d]) (by simp)).three
        go_wp2_with fail
        refine (CF.out _).mono ?_
        rintro e w11 ⟨rfl, hb11⟩
        have S := S.call hb11
        go_wp2_with fail
        go_ret
        exact ⟨ret_bool (by simp), S.bel⟩
      · clear HB
        go_wp2_with fail
        go_ret
        exact ⟨rfl, S.bel⟩
    · clear H
      rcases HB.out with ⟨rfl, eN, eE⟩ | hq
      · have CF := Lib.hid (impl_LocalDay R y m d)
        rw [eN, eE] at CF
        clear HB eN eE
        have c3 := (S.blk (D3, 35, #[.int .i64 R]) (by simp)).cell 0
        simp only [List.getElem?_toArray, List.getElem?_cons_zero] at c3
        obtain ⟨b0, b1, b2⟩ := (S.blk (D5, 25, #[.int .i64 y, .int .i64 m, .int .i64 d]) (by simp)).three
        go_wp2_with fail
        refine (CF.out _).mono ?_
        rintro e w11 ⟨rfl, hb11⟩
        have S := S.call hb11
        go_wp2_with fail
        go_ret
        exact ⟨ret_bool (by simp), S.bel⟩
      · clear HB
        go_wp2_with fail
        go_ret
        exact ⟨rfl, S.bel⟩

end Go.Proofs.Ytkmkfpglnmpnmaa.Plc
