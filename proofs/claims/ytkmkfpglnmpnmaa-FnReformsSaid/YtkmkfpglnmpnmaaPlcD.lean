/- Contracts of impl's LocalDate, DaysOfYear and SkippedDates. -/
import Derived.Test.YtkmkfpglnmpnmaaPlcL
import Derived.Test.YtkmkfpglnmpnmaaSt
import Derived.Deep.RegionHeld3
namespace Go.Proofs.Ytkmkfpglnmpnmaa.Plc
open Go.RowKit

set_option maxHeartbeats 400000 in
theorem impl_isDay (n : Int) (b : Bool) (h : decide (0 ≤ n ∧ n ≤ 730499) = b) (w : World) :
    Calls Try.prog 80 #[.int .i64 n] w fun e w' => e = .returned (.bool b) ∧ w = w' := by
  by_cases h0 : 0 ≤ n
  · have e : decide (n ≤ 730499) = b := by rw [← h]; simp [h0]
    have E := Lib.hid e
    clear h e
    go_enter Try.func80, Try.ntmps80
    go_wp2
    go_ret
    exact ⟨ret_bool E.out, rfl⟩
  · have e : b = false := by rw [← h]; simp [h0]
    have E := Lib.hid e
    clear h e
    have hd : decide (0 ≤ n) = false := by simpa using h0
    clear h0
    go_enter Try.func80, Try.ntmps80
    go_wp2
    go_ret
    exact ⟨ret_bool E.out.symm, rfl⟩

/-- A date and a code, with a property. -/
def DC (P : Int → Int → Int → Int → Prop) (w : World) (e : Ending) (w' : World) : Prop :=
  ∃ y m d c : Int, e = .returned (.tuple #[.agg #[.int .i64 y, .int .i64 m, .int .i64 d], .int .i64 c]) ∧ P y m d c ∧ Below w.heap.size w w'
theorem DC.imp {P Q : Int → Int → Int → Int → Prop} (h : ∀ y m d c, P y m d c → Q y m d c) {w : World} {e : Ending} {w' : World} (k : DC P w e w') : DC Q w e w' := by
  obtain ⟨y, m, d, c, h1, h2, h3⟩ := k
  exact ⟨y, m, d, c, h1, h _ _ _ _ h2, h3⟩

set_option maxHeartbeats 1000000 in
theorem impl_unref_date (n : Int) (w : World) :
    Calls Try.prog 128 #[.agg #[], .int .i64 n] w (DC (DateIs false n) w) := by
  go_enter Try.func128, Try.ntmps128
  go_wp2_with fail
  refine (impl_dateOf false n _).mono ?_
  rintro e w1 ⟨y, m, d, c, rfl, hd, hb⟩
  have S := (((St.start w).alloc 106 #[]).alloc 25 #[.int .i64 0, .int .i64 0, .int .i64 0]).call hb
  simp only [World.size_alloc] at S
  obtain ⟨c0, c1, c2⟩ := S.b0.three
  have f0 := S.b0.frozen 0
  have f1 := S.b0.frozen 1
  have f2 := S.b0.frozen 2
  have HD := Lib.hid hd
  clear hd
  go_wp2_with fail
  refine bodyPost_ret (v := .tuple #[.agg #[.int .i64 y, .int .i64 m, .int .i64 d], .int .i64 c]) (by simp [results, Try.results128, go_sem, c0, c1, c2]) rfl ⟨y, m, d, c, rfl, HD.out, ?_⟩
  exact ((S.bel.setCell (by simp; try omega) _).setCell (by simp; try omega) _).setCell (by simp; try omega) _

/-- What the date of a reformed place answers. -/
def RefIs (R n y m d c : Int) : Prop :=
  (n < R ∧ DateIs false n y m d c) ∨ (R ≤ n ∧ DateIs true n y m d 0 ∧ c = 0) ∨ (R ≤ n ∧ (n < Cal.ys true 1 ∨ Cal.ys true 2001 ≤ n) ∧ y = 0 ∧ m = 0 ∧ d = 0 ∧ c = 4)

set_option maxHeartbeats 1000000 in
theorem impl_ref_date (R n : Int) (w : World) :
    Calls Try.prog 125 #[.agg #[.int .i64 R], .int .i64 n] w (DC (RefIs R n) w) := by
  by_cases hn : n < R
  · go_enter Try.func125, Try.ntmps125
    go_wp2_with fail
    refine (impl_dateOf false n _).mono ?_
    rintro e w1 ⟨y, m, d, c, rfl, hd, hb⟩
    have S := (((St.start w).alloc 90 #[.int .i64 R]).alloc 25 #[.int .i64 0, .int .i64 0, .int .i64 0]).call hb
    simp only [World.size_alloc] at S
    obtain ⟨c0, c1, c2⟩ := S.b0.three
    have f0 := S.b0.frozen 0
    have f1 := S.b0.frozen 1
    have f2 := S.b0.frozen 2
    have HD := Lib.hid hd
    clear hd
    go_wp2_with fail
    refine bodyPost_ret (v := .tuple #[.agg #[.int .i64 y, .int .i64 m, .int .i64 d], .int .i64 c]) (by simp [results, Try.results125, go_sem, c0, c1, c2]) rfl ⟨y, m, d, c, rfl, .inl ⟨hn, HD.out⟩, ?_⟩
    exact ((S.bel.setCell (by simp; try omega) _).setCell (by simp; try omega) _).setCell (by simp; try omega) _
  · go_enter Try.func125, Try.ntmps125
    go_wp2_with fail
    refine (impl_dateOf true n _).mono ?_
    rintro e w1 ⟨y, m, d, c, rfl, hd, hb⟩
    have S := ((((St.start w).alloc 90 #[.int .i64 R]).alloc 25 #[.int .i64 0, .int .i64 0, .int .i64 0]).call hb).alloc 25 #[.int .i64 y, .int .i64 m, .int .i64 d]
    simp only [World.size_alloc] at S
    obtain ⟨c0, c1, c2⟩ := S.b1.three
    obtain ⟨d0, d1, d2⟩ := S.b0.three
    have f0 := S.b1.frozen 0
    have f1 := S.b1.frozen 1
    have f2 := S.b1.frozen 2
    have sz := hb.size
    simp at sz
    have HS := Lib.hid S
    have HN := Lib.hid hn
    clear hn S
    rcases hd with ⟨k1, k2, rfl, hv, hu⟩ | ⟨k, rfl, rfl, rfl, rfl⟩
    · have HD := Lib.hid (show DateIs true n y m d 0 from .inl ⟨k1, k2, rfl, hv, hu⟩)
      clear k1 k2 hv hu
      go_wp2_with fail
      refine bodyPost_ret (v := .tuple #[.agg #[.int .i64 y, .int .i64 m, .int .i64 d], .int .i64 0]) (by simp [results, Try.results125, go_sem, c0, c1, c2]) rfl ⟨y, m, d, 0, rfl, .inr (.inl ⟨by have := HN.out; omega, HD.out, rfl⟩), ?_⟩
      exact ((HS.out.bel.setCell (by simp; try omega) _).setCell (by simp; try omega) _).setCell (by simp; try omega) _
    · have HK := Lib.hid k
      clear k
      go_wp2_with fail
      refine bodyPost_ret (v := .tuple #[.agg #[.int .i64 0, .int .i64 0, .int .i64 0], .int .i64 4]) (by simp [results, Try.results125, go_sem, c0, c1, c2]) rfl ⟨0, 0, 0, 4, rfl, .inr (.inr ⟨by have := HN.out; omega, HK.out, rfl, rfl, rfl, rfl⟩), ?_⟩
      exact ((HS.out.bel.setCell (by simp; try omega) _).setCell (by simp; try omega) _).setCell (by simp; try omega) _

set_option maxHeartbeats 1000000 in
theorem impl_LocalDate_no1 (R n : Int) (hc : icB R = false) (w : World) :
    Calls Try.prog 36 #[.agg #[.int .i64 R], .int .i64 n] w (DC (fun y m d c => y = 0 ∧ m = 0 ∧ d = 0 ∧ c = 1) w) := by
  have C1 := Lib.hid (impl_isCal R)
  rw [hc] at C1
  clear hc
  go_enter Try.func36, Try.ntmps36
  go_wp2_with fail
  refine (C1.out _).mono ?_
  rintro e w1 ⟨rfl, hb⟩
  have S := (((St.start w).alloc 35 #[.int .i64 R]).alloc 25 #[.int .i64 0, .int .i64 0, .int .i64 0]).call hb
  simp only [World.size_alloc] at S
  obtain ⟨c0, c1, c2⟩ := S.b0.three
  have f0 := S.b0.frozen 0
  have f1 := S.b0.frozen 1
  have f2 := S.b0.frozen 2
  go_wp2_with fail
  refine bodyPost_ret (v := .tuple #[.agg #[.int .i64 0, .int .i64 0, .int .i64 0], .int .i64 1]) (by simp [results, Try.results36, go_sem, c0, c1, c2]) rfl ⟨0, 0, 0, 1, rfl, ⟨rfl, rfl, rfl, rfl⟩, ?_⟩
  exact ((S.bel.setCell (by simp; try omega) _).setCell (by simp; try omega) _).setCell (by simp; try omega) _

set_option maxHeartbeats 1000000 in
theorem impl_LocalDate_no2 (R n : Int) (hc : icB R = true) (hn : decide (0 ≤ n ∧ n ≤ 730499) = false) (w : World) :
    Calls Try.prog 36 #[.agg #[.int .i64 R], .int .i64 n] w (DC (fun y m d c => y = 0 ∧ m = 0 ∧ d = 0 ∧ c = 2) w) := by
  have C1 := Lib.hid (impl_isCal R)
  rw [hc] at C1
  have C2 := Lib.hid (impl_isDay n false hn)
  clear hc hn
  go_enter Try.func36, Try.ntmps36
  go_wp2_with fail
  refine (C1.out _).mono ?_
  rintro e w1 ⟨rfl, hb⟩
  have S := (((St.start w).alloc 35 #[.int .i64 R]).alloc 25 #[.int .i64 0, .int .i64 0, .int .i64 0]).call hb
  simp only [World.size_alloc] at S
  go_wp2_with fail
  refine (C2.out _).mono ?_
  rintro e w2 ⟨rfl, rfl⟩
  obtain ⟨c0, c1, c2⟩ := S.b0.three
  have f0 := S.b0.frozen 0
  have f1 := S.b0.frozen 1
  have f2 := S.b0.frozen 2
  go_wp2_with fail
  refine bodyPost_ret (v := .tuple #[.agg #[.int .i64 0, .int .i64 0, .int .i64 0], .int .i64 2]) (by simp [results, Try.results36, go_sem, c0, c1, c2]) rfl ⟨0, 0, 0, 2, rfl, ⟨rfl, rfl, rfl, rfl⟩, ?_⟩
  exact ((S.bel.setCell (by simp; try omega) _).setCell (by simp; try omega) _).setCell (by simp; try omega) _

set_option maxHeartbeats 1000000 in
theorem impl_LocalDate_old (n : Int) (hc : icB 730500 = true) (hn : decide (0 ≤ n ∧ n ≤ 730499) = true) (w : World) :
    Calls Try.prog 36 #[.agg #[.int .i64 730500], .int .i64 n] w (DC (DateIs false n) w) := by
  have C1 := Lib.hid (impl_isCal 730500)
  rw [hc] at C1
  have C2 := Lib.hid (impl_isDay n true hn)
  have CL := Lib.hid (impl_local_old)
  have CN := Lib.hid (impl_unref_date n)
  clear hc hn
  go_enter Try.func36, Try.ntmps36
  go_wp2_with fail
  refine (C1.out _).mono ?_
  rintro e w1 ⟨rfl, hb⟩
  have S := (((St.start w).alloc 35 #[.int .i64 730500]).alloc 25 #[.int .i64 0, .int .i64 0, .int .i64 0]).call hb
  simp only [World.size_alloc] at S
  go_wp2_with fail
  refine (C2.out _).mono ?_
  rintro e w2 ⟨rfl, rfl⟩
  have r0 := S.b1.cell 0
  simp at r0
  go_wp2_with fail
  refine (CL.out _).mono ?_
  rintro e w3 ⟨rfl, hb3⟩
  have S := S.call hb3
  go_wp2_with fail
  refine (CN.out _).mono ?_
  rintro e w4 ⟨y, m, d, c, rfl, hd, hb4⟩
  have S := S.call hb4
  have HD := Lib.hid hd
  clear hd r0
  obtain ⟨c0, c1, c2⟩ := S.b0.three
  have f0 := S.b0.frozen 0
  have f1 := S.b0.frozen 1
  have f2 := S.b0.frozen 2
  go_wp2_with fail
  refine bodyPost_ret (v := .tuple #[.agg #[.int .i64 y, .int .i64 m, .int .i64 d], .int .i64 c]) (by simp [results, Try.results36, go_sem, c0, c1, c2]) rfl ⟨y, m, d, c, rfl, HD.out, ?_⟩
  exact ((S.bel.setCell (by simp; try omega) _).setCell (by simp; try omega) _).setCell (by simp; try omega) _

set_option maxHeartbeats 1000000 in
theorem impl_LocalDate_new (R : Int) (hR : R ≠ 730500) (n : Int) (hc : icB R = true) (hn : decide (0 ≤ n ∧ n ≤ 730499) = true) (w : World) :
    Calls Try.prog 36 #[.agg #[.int .i64 R], .int .i64 n] w (DC (RefIs R n) w) := by
  have C1 := Lib.hid (impl_isCal R)
  rw [hc] at C1
  have C2 := Lib.hid (impl_isDay n true hn)
  have CL := Lib.hid (impl_local_new R hR)
  have CN := Lib.hid (impl_ref_date R n)
  clear hc hn
  go_enter Try.func36, Try.ntmps36
  go_wp2_with fail
  refine (C1.out _).mono ?_
  rintro e w1 ⟨rfl, hb⟩
  have S := (((St.start w).alloc 35 #[.int .i64 R]).alloc 25 #[.int .i64 0, .int .i64 0, .int .i64 0]).call hb
  simp only [World.size_alloc] at S
  go_wp2_with fail
  refine (C2.out _).mono ?_
  rintro e w2 ⟨rfl, rfl⟩
  have r0 := S.b1.cell 0
  simp at r0
  go_wp2_with fail
  refine (CL.out _).mono ?_
  rintro e w3 ⟨rfl, hb3⟩
  have S := S.call hb3
  go_wp2_with fail
  refine (CN.out _).mono ?_
  rintro e w4 ⟨y, m, d, c, rfl, hd, hb4⟩
  have S := S.call hb4
  have HD := Lib.hid hd
  clear hd r0
  obtain ⟨c0, c1, c2⟩ := S.b0.three
  have f0 := S.b0.frozen 0
  have f1 := S.b0.frozen 1
  have f2 := S.b0.frozen 2
  go_wp2_with fail
  refine bodyPost_ret (v := .tuple #[.agg #[.int .i64 y, .int .i64 m, .int .i64 d], .int .i64 c]) (by simp [results, Try.results36, go_sem, c0, c1, c2]) rfl ⟨y, m, d, c, rfl, HD.out, ?_⟩
  exact ((S.bel.setCell (by simp; try omega) _).setCell (by simp; try omega) _).setCell (by simp; try omega) _

theorem impl_LocalDate (R n : Int) (w : World) :
    Calls Try.prog 36 #[.agg #[.int .i64 R], .int .i64 n] w (DC (Loc.DateIs R n) w) := by
  have b1 : Cal.ys false 1 = 0 := rfl
  have b2 : Cal.ys true 1 = 2 := rfl
  have b3 : Cal.ys false 2001 = 730500 := by decide
  have b4 : Cal.ys true 2001 = 730487 := by decide
  by_cases hc : icB R = true
  · have hcal : Loc.isCal R := of_decide_eq_true hc
    have hbd := Loc.isCal_bd hcal
    by_cases hn : 0 ≤ n ∧ n ≤ 730499
    · by_cases hR : R = 730500
      · subst hR
        refine (impl_LocalDate_old n hc (decide_eq_true hn) w).mono fun e w' k => k.imp ?_
        rintro y m d c (⟨h1, h2, h3, h4, h5⟩ | ⟨h1, h2⟩)
        · exact .inr (.inr (.inl ⟨hcal, hn.1, hn.2, by omega, h3, h4, h5⟩))
        · omega
      · refine (impl_LocalDate_new R hR n hc (decide_eq_true hn) w).mono fun e w' k => k.imp ?_
        have h86 : R ≤ 730486 := by rcases hcal with h | h <;> omega
        rintro y m d c (⟨h0, h⟩ | ⟨h0, h, rfl⟩ | ⟨h0, h, rfl, rfl, rfl, rfl⟩)
        · rcases h with ⟨h1, h2, h3, h4, h5⟩ | ⟨h1, h2⟩
          · exact .inr (.inr (.inl ⟨hcal, hn.1, hn.2, h0, h3, h4, h5⟩))
          · omega
        · rcases h with ⟨h1, h2, h3, h4, h5⟩ | ⟨h1, h2, h3⟩
          · exact .inr (.inr (.inr (.inl ⟨hcal, h0, by omega, rfl, h4, h5⟩)))
          · omega
        · exact .inr (.inr (.inr (.inr ⟨hcal, h0, by omega, hn.2, rfl, rfl, rfl, rfl⟩)))
    · refine (impl_LocalDate_no2 R n hc (decide_eq_false hn) w).mono fun e w' k => k.imp ?_
      rintro y m d c ⟨rfl, rfl, rfl, rfl⟩
      exact .inr (.inl ⟨hcal, hn, rfl, rfl, rfl, rfl⟩)
  · refine (impl_LocalDate_no1 R n (by simpa using hc) w).mono fun e w' k => k.imp ?_
    rintro y m d c ⟨rfl, rfl, rfl, rfl⟩
    exact .inl ⟨fun h => hc (decide_eq_true h), rfl, rfl, rfl, rfl⟩

end Go.Proofs.Ytkmkfpglnmpnmaa.Plc
