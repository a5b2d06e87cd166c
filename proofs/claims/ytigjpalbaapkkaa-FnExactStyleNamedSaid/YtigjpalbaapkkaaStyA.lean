/- Contracts of spec's beginning of a year, of its span, of the year of a day: made by gen_stya.py. -/
import Derived.Test.YtigjpalbaapkkaaStyM
import Derived.Test.YtigjpalbaapkkaaFeaB
namespace Go.Proofs.Ytigjpalbaapkkaa.Sty
open Go.RowKit
open Go.Proofs.Ytigjpalbaapkkaa.Eas (isY It oE oM oD o_valid DateV spec_old spec_num)
open Go.Proofs.Ytigjpalbaapkkaa.Fea (yr yr_isY fixed_valid spec_oldOf isDay spec_day_yes spec_day_no)

theorem spec_style_yes (s : Int) (h : isS s) (w : World) : Calls Try.prog 73 #[.int .i64 s] w fun e w' => e = .returned (.bool true) ∧ w = w' := by
  have A := Lib.hid (Eas.spec_in_yes s 0 6 h)
  clear h
  go_enter Try.func73, Try.ntmps73
  go_wp2_with fail
  refine (A.out _).mono ?_
  rintro e w1 ⟨rfl, rfl⟩
  go_wp2_with fail
  go_ret
  exact ⟨rfl, rfl⟩

theorem spec_style_no (s : Int) (h : ¬ isS s) (w : World) : Calls Try.prog 73 #[.int .i64 s] w fun e w' => e = .returned (.bool false) ∧ w = w' := by
  have A := Lib.hid (Eas.spec_in_no s 0 6 h)
  clear h
  go_enter Try.func73, Try.ntmps73
  go_wp2_with fail
  refine (A.out _).mono ?_
  rintro e w1 ⟨rfl, rfl⟩
  go_wp2_with fail
  go_ret
  exact ⟨rfl, rfl⟩

theorem spec_syear_yes (y : Int) (h : isT y) (w : World) : Calls Try.prog 81 #[.int .i64 y] w fun e w' => e = .returned (.bool true) ∧ w = w' := by
  have A := Lib.hid (Eas.spec_in_yes y 2 1999 h)
  clear h
  go_enter Try.func81, Try.ntmps81
  go_wp2_with fail
  refine (A.out _).mono ?_
  rintro e w1 ⟨rfl, rfl⟩
  go_wp2_with fail
  go_ret
  exact ⟨rfl, rfl⟩

theorem spec_syear_no (y : Int) (h : ¬ isT y) (w : World) : Calls Try.prog 81 #[.int .i64 y] w fun e w' => e = .returned (.bool false) ∧ w = w' := by
  have A := Lib.hid (Eas.spec_in_no y 2 1999 h)
  clear h
  go_enter Try.func81, Try.ntmps81
  go_wp2_with fail
  refine (A.out _).mono ?_
  rintro e w1 ⟨rfl, rfl⟩
  go_wp2_with fail
  go_ret
  exact ⟨rfl, rfl⟩

set_option maxHeartbeats 1000000 in
theorem spec_begin0 (y : Int) (h1 : 2 ≤ y) (h2 : y ≤ 2000) (w : World) : Calls Try.prog 110 #[.int .i64 0, .int .i64 y] w (It (bg 0 y) w) := by
  have N := Lib.hid (spec_num false (y) 1 1 _ (fixed_valid (y) 1 1 ⟨by omega, by omega⟩ (by omega) (by omega) (by omega) (by omega)) rfl)
  rw [show bg 0 y = Cal.num false (y) 1 1 from rfl]
  generalize Cal.num false (y) 1 1 = n at N
  go_enter Try.func110, Try.ntmps110
  go_wp2_with fail
  refine (N.out _).mono ?_
  rintro e w1 ⟨rfl, hb⟩
  go_wp2_with fail
  go_ret
  exact ⟨rfl, ((Below.refl _ _).alloc (Nat.le_refl _) _).trans (hb.mono (by simp))⟩

set_option maxHeartbeats 1000000 in
theorem spec_begin1 (y : Int) (h1 : 2 ≤ y) (h2 : y ≤ 2000) (w : World) : Calls Try.prog 110 #[.int .i64 1, .int .i64 y] w (It (bg 1 y) w) := by
  have N := Lib.hid (spec_num false (y) 3 1 _ (fixed_valid (y) 3 1 ⟨by omega, by omega⟩ (by omega) (by omega) (by omega) (by omega)) rfl)
  rw [show bg 1 y = Cal.num false (y) 3 1 from rfl]
  generalize Cal.num false (y) 3 1 = n at N
  go_enter Try.func110, Try.ntmps110
  go_wp2_with fail
  refine (N.out _).mono ?_
  rintro e w1 ⟨rfl, hb⟩
  go_wp2_with fail
  go_ret
  exact ⟨rfl, ((Below.refl _ _).alloc (Nat.le_refl _) _).trans (hb.mono (by simp))⟩

set_option maxHeartbeats 1000000 in
theorem spec_begin2 (y : Int) (h1 : 2 ≤ y) (h2 : y ≤ 2000) (w : World) : Calls Try.prog 110 #[.int .i64 2, .int .i64 y] w (It (bg 2 y) w) := by
  have N := Lib.hid (spec_num false (y) 3 25 _ (fixed_valid (y) 3 25 ⟨by omega, by omega⟩ (by omega) (by omega) (by omega) (by omega)) rfl)
  rw [show bg 2 y = Cal.num false (y) 3 25 from rfl]
  generalize Cal.num false (y) 3 25 = n at N
  go_enter Try.func110, Try.ntmps110
  go_wp2_with fail
  refine (N.out _).mono ?_
  rintro e w1 ⟨rfl, hb⟩
  go_wp2_with fail
  go_ret
  exact ⟨rfl, ((Below.refl _ _).alloc (Nat.le_refl _) _).trans (hb.mono (by simp))⟩

set_option maxHeartbeats 1000000 in
theorem spec_begin3 (y : Int) (h1 : 2 ≤ y) (h2 : y ≤ 2000) (w : World) : Calls Try.prog 110 #[.int .i64 3, .int .i64 y] w (It (bg 3 y) w) := by
  have N := Lib.hid (spec_num false (y - 1) 3 25 _ (fixed_valid (y - 1) 3 25 ⟨by omega, by omega⟩ (by omega) (by omega) (by omega) (by omega)) rfl)
  rw [show bg 3 y = Cal.num false (y - 1) 3 25 from rfl]
  generalize Cal.num false (y - 1) 3 25 = n at N
  go_enter Try.func110, Try.ntmps110
  go_wp2_with fail
  refine (N.out _).mono ?_
  rintro e w1 ⟨rfl, hb⟩
  go_wp2_with fail
  go_ret
  exact ⟨rfl, ((Below.refl _ _).alloc (Nat.le_refl _) _).trans (hb.mono (by simp))⟩

set_option maxHeartbeats 1000000 in
theorem spec_begin5 (y : Int) (h1 : 2 ≤ y) (h2 : y ≤ 2000) (w : World) : Calls Try.prog 110 #[.int .i64 5, .int .i64 y] w (It (bg 5 y) w) := by
  have N := Lib.hid (spec_num false (y - 1) 12 25 _ (fixed_valid (y - 1) 12 25 ⟨by omega, by omega⟩ (by omega) (by omega) (by omega) (by omega)) rfl)
  rw [show bg 5 y = Cal.num false (y - 1) 12 25 from rfl]
  generalize Cal.num false (y - 1) 12 25 = n at N
  go_enter Try.func110, Try.ntmps110
  go_wp2_with fail
  refine (N.out _).mono ?_
  rintro e w1 ⟨rfl, hb⟩
  go_wp2_with fail
  go_ret
  exact ⟨rfl, ((Below.refl _ _).alloc (Nat.le_refl _) _).trans (hb.mono (by simp))⟩

set_option maxHeartbeats 1000000 in
theorem spec_begin6 (y : Int) (h1 : 2 ≤ y) (h2 : y ≤ 2000) (w : World) : Calls Try.prog 110 #[.int .i64 6, .int .i64 y] w (It (bg 6 y) w) := by
  have N := Lib.hid (spec_num false (y - 1) 9 1 _ (fixed_valid (y - 1) 9 1 ⟨by omega, by omega⟩ (by omega) (by omega) (by omega) (by omega)) rfl)
  rw [show bg 6 y = Cal.num false (y - 1) 9 1 from rfl]
  generalize Cal.num false (y - 1) 9 1 = n at N
  go_enter Try.func110, Try.ntmps110
  go_wp2_with fail
  refine (N.out _).mono ?_
  rintro e w1 ⟨rfl, hb⟩
  go_wp2_with fail
  go_ret
  exact ⟨rfl, ((Below.refl _ _).alloc (Nat.le_refl _) _).trans (hb.mono (by simp))⟩

set_option maxHeartbeats 1000000 in
theorem spec_begin4 (y : Int) (h1 : 2 ≤ y) (h2 : y ≤ 2000) (w : World) : Calls Try.prog 110 #[.int .i64 4, .int .i64 y] w (It (bg 4 y) w) := by
  have O := Lib.hid (spec_old y ⟨by omega, h2⟩)
  have N := Lib.hid (spec_num false y (oM y) (oD y) _ (o_valid y ⟨by omega, h2⟩) rfl)
  rw [show bg 4 y = oE y from rfl, show Cal.num false y (oM y) (oD y) = oE y from rfl] at *
  generalize oE y = n at N ⊢
  generalize oM y = m at O N
  generalize oD y = d at O N
  have k := (Below.refl w.heap.size w).alloc (Nat.le_refl _) (.cells #[.int .i64 y, .int .i64 1, .int .i64 1] 47)
  have B := Blk.new w 47 #[.int .i64 y, .int .i64 1, .int .i64 1]
  go_enter Try.func110, Try.ntmps110
  go_wp2_with fail
  refine (O.out _).mono ?_
  rintro e w1 ⟨rfl, hb⟩
  have B1 := B.below hb B.lt
  have c0 : w1.cell? ⟨w.heap.size, 0, none⟩ = some (.int .i64 y) := B1.cell 0
  have c1 : w1.cell? ⟨w.heap.size, 1, none⟩ = some (.int .i64 1) := B1.cell 1
  have c2 : w1.cell? ⟨w.heap.size, 2, none⟩ = some (.int .i64 1) := B1.cell 2
  have f0 := B1.frozen 0
  have f1 := B1.frozen 1
  have f2 := B1.frozen 2
  have k1 := (((k.trans (hb.mono k.size)).setCell (p := ⟨w.heap.size, 0, none⟩) (Nat.le_refl _) (.int .i64 y)).setCell (p := ⟨w.heap.size, 1, none⟩) (Nat.le_refl _) (.int .i64 m)).setCell (p := ⟨w.heap.size, 2, none⟩) (Nat.le_refl _) (.int .i64 d)
  clear B B1 hb
  go_wp2_with fail
  refine (N.out _).mono ?_
  rintro e w2 ⟨rfl, hb⟩
  go_wp2_with fail
  go_ret
  exact ⟨rfl, k1.trans (hb.mono k1.size)⟩

theorem spec_begin (s y : Int) (hs : isS s) (h1 : 2 ≤ y) (h2 : y ≤ 2000) (w : World) : Calls Try.prog 110 #[.int .i64 s, .int .i64 y] w (It (bg s y) w) := by
  obtain ⟨a, b⟩ := hs
  have h : s = 0 ∨ s = 1 ∨ s = 2 ∨ s = 3 ∨ s = 4 ∨ s = 5 ∨ s = 6 := by omega
  rcases h with rfl | rfl | rfl | rfl | rfl | rfl | rfl
  · exact spec_begin0 y h1 h2 w
  · exact spec_begin1 y h1 h2 w
  · exact spec_begin2 y h1 h2 w
  · exact spec_begin3 y h1 h2 w
  · exact spec_begin4 y h1 h2 w
  · exact spec_begin5 y h1 h2 w
  · exact spec_begin6 y h1 h2 w

/-- What a call leaves that answers a span. -/
def SpS (f t : Int) (w : World) (e : Ending) (w' : World) : Prop := e = .returned (.agg #[.int .i64 f, .int .i64 t]) ∧ Below w.heap.size w w'
set_option maxHeartbeats 1000000 in
theorem spec_sspan (s y : Int) (hs : isS s) (hy : isT y) (w : World) : Calls Try.prog 88 #[.int .i64 s, .int .i64 y] w (SpS (bg s y) (bg s (y + 1) - 1) w) := by
  obtain ⟨y1, y2⟩ := hy
  have B1 := Lib.hid (spec_begin s y hs y1 (by omega))
  have B2 := Lib.hid (spec_begin s (y + 1) hs (by omega) (by omega))
  obtain ⟨b1, b2⟩ := bg_bd2 s (y + 1) (by omega) (by omega)
  generalize bg s y = a at *
  generalize bg s (y + 1) = b at *
  have S0 := (St.start w).alloc 40 #[.int .i64 0, .int .i64 0]
  go_enter Try.func88, Try.ntmps88
  go_wp2_with fail
  refine (B1.out _).mono ?_
  rintro e w1 ⟨rfl, hb1⟩
  have S1 := S0.call hb1
  go_wp2_with fail
  refine (B2.out _).mono ?_
  rintro e w2 ⟨rfl, hb2⟩
  have S2 := S1.call hb2
  have c0 : w2.cell? ⟨w.heap.size, 0, none⟩ = some (.int .i64 0) := S2.b0.cell 0
  have c1 : w2.cell? ⟨w.heap.size, 1, none⟩ = some (.int .i64 0) := S2.b0.cell 1
  have f0 := S2.b0.frozen 0
  have f1 := S2.b0.frozen 1
  have hb := (S2.bel.setCell (p := ⟨w.heap.size, 0, none⟩) (Nat.le_refl _) (.int .i64 a)).setCell (p := ⟨w.heap.size, 1, none⟩) (Nat.le_refl _) (.int .i64 (b - 1))
  clear S0 S1 S2 hb1 hb2
  go_wp2_with fail
  refine bodyPost_ret (v := .agg #[.int .i64 a, .int .i64 (b - 1)]) (by simp [results, Try.results88, go_sem, c0, c1]) rfl ⟨rfl, hb⟩

end Go.Proofs.Ytigjpalbaapkkaa.Sty
