/- Texts of a claim in one file: ReiM Days. -/
import Derived.Test.YtfhcakpmlppbkaaDoorGrpAb
import Derived.Test.YtfhcakpmlppbkaaDoorProg
import Derived.Test.YtfhcakpmlppbkaaDoorGrpAa
import Derived.WalkKit
import Derived.WalkSpells
import Derived.WalkLawsBesides
import Derived.Deep.QuietTactic
import Derived.BigQuiet
import Derived.Lib.Hide
namespace Go.Proofs.YtfhcakpmlppbkaaDoor.Rei
open Go.Proofs.YtfhcakpmlppbkaaDoor.Eas (isY cum_3)
open Go.Proofs.YtfhcakpmlppbkaaDoor.Fea (mlenN mlen2 ys_old yr yr_in yr_eq yr_isY yr_num)

/-- 1 in a leap year, 0 else. -/
def lv (y : Int) : Int := if Cal.lp false y then 1 else 0
theorem lv_bd (y : Int) : 0 ≤ lv y ∧ lv y ≤ 1 := by unfold lv; split <;> omega
theorem lv_mod (y : Int) : lv y = if y % 4 = 0 then 1 else 0 := by
  unfold lv Cal.lp
  simp
theorem ys_next (y : Int) : Cal.ys false (y + 1) = Cal.ys false y + 365 + lv y := Cal.ys_succ false y
/-- The place of a day in its year, its year's length apart: the place that the same date has in another year. -/
def place (y o y' : Int) : Int := if lv y = 0 then (if 59 ≤ o then o + lv y' else o) else (if o ≤ 59 then o else o - (1 - lv y'))
/-- The day on which the year k of a reign from the day f on begins. -/
def rb (f k : Int) : Int := Cal.ys false (yr f + k - 1) + place (yr f) (f - Cal.ys false (yr f)) (yr f + k - 1)
theorem place_bd (f y' : Int) : 0 ≤ place (yr f) (f - Cal.ys false (yr f)) y' ∧ place (yr f) (f - Cal.ys false (yr f)) y' < 365 + lv y' := by
  have h := yr_in f
  rw [ys_next] at h
  have a := lv_bd (yr f)
  have b := lv_bd y'
  unfold place
  repeat' split
  all_goals omega
theorem rb_in (f k : Int) : Cal.ys false (yr f + k - 1) ≤ rb f k ∧ rb f k < Cal.ys false (yr f + k) := by
  have h := place_bd f (yr f + k - 1)
  have e := ys_next (yr f + k - 1)
  rw [show yr f + k - 1 + 1 = yr f + k by omega] at e
  unfold rb
  omega
theorem rb_one (f : Int) : rb f 1 = f := by
  have h := yr_in f
  rw [ys_next] at h
  have a := lv_bd (yr f)
  unfold rb place
  rw [show yr f + 1 - 1 = yr f by omega]
  repeat' split
  all_goals omega
theorem rb_yr (f k : Int) : yr (rb f k) = yr f + k - 1 := by
  have h := rb_in f k
  exact yr_eq h.1 (by rw [show yr f + k - 1 + 1 = yr f + k by omega]; exact h.2)
theorem rb_lt (f : Int) {k k' : Int} (h : k < k') : rb f k < rb f k' := by
  have a := (rb_in f k).2
  have b := (rb_in f k').1
  have c := Cal.ys_mono false (yr f + k) (yr f + k' - 1) (by omega)
  omega
theorem rb_gap (f k : Int) : rb f k + 365 ≤ rb f (k + 1) ∧ rb f (k + 1) ≤ rb f k + 366 := by
  have e := ys_next (yr f + k - 1)
  have h := yr_in f
  rw [ys_next] at h
  have a := lv_bd (yr f)
  have b := lv_bd (yr f + k - 1)
  have c := lv_bd (yr f + k)
  have m1 := lv_mod (yr f + k - 1)
  have m2 := lv_mod (yr f + k)
  unfold rb place
  rw [show yr f + (k + 1) - 1 = yr f + k by omega, show yr f + k - 1 + 1 = yr f + k by omega] at *
  generalize lv (yr f) = v0 at *
  generalize lv (yr f + k - 1) = v1 at *
  generalize lv (yr f + k) = v2 at *
  have hv : v1 = 0 ∨ v2 = 0 := by
    revert m1 m2
    split <;> split <;> intros <;> omega
  repeat' split
  all_goals omega
set_option maxHeartbeats 2000000 in
/-- What the date k - 1 years later is. -/
theorem rb_date {y m d f : Int} (hv : Cal.valid false y m d) (hn : Cal.num false y m d = f) (k : Int) :
    (if m = 2 ∧ d = 29 ∧ Cal.lp false (y + k - 1) = false then Cal.num false (y + k - 1) 3 1 else Cal.num false (y + k - 1) m d) = rb f k := by
  have hy := yr_num hv hn
  obtain ⟨-, -, m1, m2, d1, d2⟩ := hv
  unfold rb
  rw [hy]
  have e : f = Cal.ys false y + Cal.cum false y m + d - 1 := by rw [← hn]; unfold Cal.num; omega
  subst e
  have key : ∀ z : Int, Cal.cum false z 1 = 0 ∧ Cal.cum false z 2 = 31 ∧ Cal.cum false z 3 = 59 + lv z ∧ Cal.cum false z 4 = 90 + lv z ∧ Cal.cum false z 5 = 120 + lv z ∧ Cal.cum false z 6 = 151 + lv z ∧ Cal.cum false z 7 = 181 + lv z ∧ Cal.cum false z 8 = 212 + lv z ∧ Cal.cum false z 9 = 243 + lv z ∧ Cal.cum false z 10 = 273 + lv z ∧ Cal.cum false z 11 = 304 + lv z ∧ Cal.cum false z 12 = 334 + lv z := by
    intro z
    have c1 := Cal.cum_one false z
    have c3 := cum_3 false z
    have c2 := Cal.cum_succ false z 1 (by omega)
    have c4 := Cal.cum_succ false z 3 (by omega)
    have c5 := Cal.cum_succ false z 4 (by omega)
    have c6 := Cal.cum_succ false z 5 (by omega)
    have c7 := Cal.cum_succ false z 6 (by omega)
    have c8 := Cal.cum_succ false z 7 (by omega)
    have c9 := Cal.cum_succ false z 8 (by omega)
    have c10 := Cal.cum_succ false z 9 (by omega)
    have c11 := Cal.cum_succ false z 10 (by omega)
    have c12 := Cal.cum_succ false z 11 (by omega)
    rw [mlenN _ _ _ (by omega)] at c2 c4 c5 c6 c7 c8 c9 c10 c11 c12
    simp at c2 c4 c5 c6 c7 c8 c9 c10 c11 c12
    unfold lv
    omega
  obtain ⟨a1, a2, a3, a4, a5, a6, a7, a8, a9, a10, a11, a12⟩ := key y
  obtain ⟨b1, b2, b3, b4, b5, b6, b7, b8, b9, b10, b11, b12⟩ := key (y + k - 1)
  have v0 := lv_bd y
  have v1 := lv_bd (y + k - 1)
  have hl : Cal.lp false (y + k - 1) = false ↔ lv (y + k - 1) = 0 := by unfold lv; cases Cal.lp false (y + k - 1) <;> simp
  simp only [hl]
  have hd2 : (m = 2 → d ≤ 28 + lv y) ∧ (m ≠ 2 → d ≤ 31) ∧ (m = 4 ∨ m = 6 ∨ m = 9 ∨ m = 11 → d ≤ 30) := by
    refine ⟨fun e => ?_, fun e => ?_, fun e => ?_⟩
    · subst e; rw [mlen2] at d2; exact d2
    · rw [mlenN _ _ _ e] at d2; split at d2 <;> omega
    · rw [mlenN _ _ _ (by omega), if_pos e] at d2; exact d2
  obtain ⟨hd2, hd3, hd4⟩ := hd2
  clear d2 hl key
  unfold place Cal.num
  generalize lv y = u at *
  generalize lv (y + k - 1) = u' at *
  have h : m = 1 ∨ m = 2 ∨ m = 3 ∨ m = 4 ∨ m = 5 ∨ m = 6 ∨ m = 7 ∨ m = 8 ∨ m = 9 ∨ m = 10 ∨ m = 11 ∨ m = 12 := by omega
  rcases h with rfl | rfl | rfl | rfl | rfl | rfl | rfl | rfl | rfl | rfl | rfl | rfl <;> (repeat' split) <;> omega

/-! ### the year of a day -/
/-- The day n is in the year k. -/
def RyIs (f n k : Int) : Prop := 1 ≤ k ∧ rb f k ≤ n ∧ n < rb f (k + 1)
theorem RyIs.uniq {f n k k' : Int} (h : RyIs f n k) (h' : RyIs f n k') : k = k' := by
  obtain ⟨-, a, b⟩ := h
  obtain ⟨-, a', b'⟩ := h'
  rcases Int.lt_trichotomy k k' with h | h | h
  · by_cases e : k + 1 = k'
    · subst e; omega
    · have := rb_lt f (show k + 1 < k' by omega); omega
  · exact h
  · by_cases e : k' + 1 = k
    · subst e; omega
    · have := rb_lt f (show k' + 1 < k by omega); omega
def ry (f n : Int) : Int := if n < rb f (yr n - yr f + 1) then yr n - yr f else yr n - yr f + 1
theorem yr_le {a b : Int} (h : a ≤ b) : yr a ≤ yr b := by unfold yr; omega
theorem ry_is {f n : Int} (h : f ≤ n) : RyIs f n (ry f n) := by
  have hy := yr_le h
  have r0 := yr_in n
  have r1 := rb_in f (yr n - yr f)
  have r2 := rb_in f (yr n - yr f + 1 + 1)
  rw [show yr f + (yr n - yr f) = yr n by omega] at r1
  rw [show yr f + (yr n - yr f + 1 + 1) - 1 = yr n + 1 by omega] at r2
  unfold ry
  split
  · rename_i hlt
    refine ⟨?_, by omega, hlt⟩
    by_cases k : 0 < yr n - yr f
    · omega
    · exfalso
      have e : yr n - yr f + 1 = 1 := by omega
      rw [e, rb_one] at hlt
      omega
  · rename_i hge
    exact ⟨by omega, by omega, by omega⟩
theorem ry_bd {f n : Int} (h : f ≤ n) : 1 ≤ ry f n ∧ yr n - yr f ≤ ry f n ∧ ry f n ≤ yr n - yr f + 1 := by
  have := (ry_is h).1
  unfold ry at *
  split at * <;> omega

end Go.Proofs.YtfhcakpmlppbkaaDoor.Rei

namespace Go.Proofs.YtfhcakpmlppbkaaDoor
open Go.RowKit

/-- The word for a calendar: false is the old one, true the new one. -/
def rk (f : Bool) : Int := if f then 1 else 0

theorem ret_bool {a b : Bool} (h : a = b) : Ending.returned (.bool a) = .returned (.bool b) := by rw [h]
theorem ret_int {k : IntKind} {a b : Int} (h : a = b) : Ending.returned (.int k a) = .returned (.int k b) := by rw [h]

theorem ret_ii {k l : IntKind} {a b c d : Int} (h : a = b) (h' : c = d) : Ending.returned (.tuple #[.int k a, .int l c]) = .returned (.tuple #[.int k b, .int l d]) := by rw [h, h']
theorem bcell {W w1 : World} (hb : Below W.heap.size W w1) : (∀ b o, b < W.heap.size → w1.cell? ⟨b, o, none⟩ = W.cell? ⟨b, o, none⟩) ∧ (∀ b o, b < W.heap.size → w1.frozen? ⟨b, o, none⟩ = W.frozen? ⟨b, o, none⟩) :=
  ⟨fun b o h => hb.cell (p := ⟨b, o, none⟩) h, fun b o h => hb.frozen (p := ⟨b, o, none⟩) h⟩

/-! ### impl -/
set_option maxHeartbeats 400000 in
theorem impl_leap (f : Bool) (y : Int) (h0 : 0 ≤ y) (w : World) :
    Calls Tryd.prog 86 #[.int .i64 (rk f), .int .i64 y] w fun e w' => e = .returned (.bool (Cal.lp f y)) ∧ w = w' := by
  cases f
  · show Calls Tryd.prog 86 #[.int .i64 0, .int .i64 y] w _
    go_enter Tryd.func86, Tryd.ntmps86
    go_wp2
    go_ret
    exact ⟨ret_bool (by simp [Cal.lp]), rfl⟩
  · show Calls Tryd.prog 86 #[.int .i64 1, .int .i64 y] w _
    by_cases h : y % 100 = 0
    · have hb : (y % 100 == 0) = true := by simpa using h
      have hL := Lib.hid (show (y % 400 == 0) = Cal.lp true y by simp [Cal.lp, h])
      clear h
      go_enter Tryd.func86, Tryd.ntmps86
      go_wp2
      go_ret
      exact ⟨ret_bool hL.out, rfl⟩
    · have hb : (y % 100 == 0) = false := by simpa using h
      have hL := Lib.hid (show (y % 4 == 0) = Cal.lp true y by simp [Cal.lp, h])
      clear h
      go_enter Tryd.func86, Tryd.ntmps86
      go_wp2
      go_ret
      exact ⟨ret_bool hL.out, rfl⟩

set_option maxHeartbeats 400000 in
theorem impl_mlen (f : Bool) (y m : Int) (h0 : 0 ≤ y) (w : World) :
    Calls Tryd.prog 70 #[.int .i64 (rk f), .int .i64 y, .int .i64 m] w fun e w' => e = .returned (.int .i64 (Cal.mlen f y m)) ∧ w = w' := by
  by_cases h2 : m = 2
  · subst h2
    go_enter Tryd.func70, Tryd.ntmps70
    go_wp2_with (go_at_call 86; refine (impl_leap f y h0 _).mono ?_; rintro e w' ⟨rfl, rfl⟩)
    all_goals
      go_ret
      exact ⟨ret_int (by simp [Cal.mlen, *]), rfl⟩
  · have hL := Lib.hid (show (if m = 4 ∨ m = 6 ∨ m = 9 ∨ m = 11 then 30 else 31) = Cal.mlen f y m by simp [Cal.mlen, h2])
    have h2b : (m == 2) = false := by simpa using h2
    clear h2
    go_enter Tryd.func70, Tryd.ntmps70
    go_wp2_with fail
    all_goals
      go_ret
      exact ⟨ret_int (by rw [← hL.out]; simp_all), rfl⟩

set_option maxHeartbeats 400000 in
theorem impl_ys (f : Bool) (y : Int) (h0 : 1 ≤ y) (h1 : y ≤ 2001) (w : World) :
    Calls Tryd.prog 69 #[.int .i64 (rk f), .int .i64 y] w fun e w' => e = .returned (.int .i64 (Cal.ys f y)) ∧ w = w' := by
  cases f
  · show Calls Tryd.prog 69 #[.int .i64 0, .int .i64 y] w _
    go_enter Tryd.func69, Tryd.ntmps69
    go_wp2
    go_ret
    exact ⟨ret_int (by simp [Cal.ys]), rfl⟩
  · show Calls Tryd.prog 69 #[.int .i64 1, .int .i64 y] w _
    go_enter Tryd.func69, Tryd.ntmps69
    go_wp2
    go_ret
    exact ⟨ret_int (by simp [Cal.ys]), rfl⟩

/-- A date of a calendar, as a Bool that no rule opens. -/
def vb (f : Bool) (y m d : Int) : Bool := decide (Cal.valid f y m d)
theorem vb_true {f : Bool} {y m d : Int} (h : Cal.valid f y m d) : vb f y m d = true := by simp [vb, h]
theorem vb_false {f : Bool} {y m d : Int} (h : ¬ Cal.valid f y m d) : vb f y m d = false := by simp [vb, h]
theorem vb_iff {f : Bool} {y m d : Int} : vb f y m d = true ↔ Cal.valid f y m d := by simp [vb]

set_option maxHeartbeats 400000 in
theorem impl_isYear (y : Int) (b : Bool) (hb : decide (1 ≤ y ∧ y ≤ 2000) = b) (w : World) :
    Calls Tryd.prog 99 #[.int .i64 y] w fun e w' => e = .returned (.bool b) ∧ w = w' := by
  by_cases h1 : 1 ≤ y
  · have hv := Lib.hid (show decide (y ≤ 2000) = b by simpa [h1] using hb)
    clear hb
    go_enter Tryd.func99, Tryd.ntmps99
    go_wp2
    go_ret
    exact ⟨ret_bool hv.out, rfl⟩
  · have hv := Lib.hid (show false = b by simpa [h1] using hb)
    have hd : decide (1 ≤ y) = false := by simpa using h1
    clear h1 hb
    go_enter Tryd.func99, Tryd.ntmps99
    go_wp2
    go_ret
    exact ⟨ret_bool hv.out, rfl⟩

theorem impl_year_yes (y : Int) (h1 : 1 ≤ y) (h2 : y ≤ 2000) (w : World) : Calls Tryd.prog 99 #[.int .i64 y] w fun e w' => e = .returned (.bool true) ∧ w = w' :=
  impl_isYear y true (decide_eq_true ⟨h1, h2⟩) w
theorem impl_year_no (y : Int) (h : ¬ (1 ≤ y ∧ y ≤ 2000)) (w : World) : Calls Tryd.prog 99 #[.int .i64 y] w fun e w' => e = .returned (.bool false) ∧ w = w' :=
  impl_isYear y false (decide_eq_false h) w

set_option maxHeartbeats 400000 in
theorem impl_isIn (f : Bool) (y m d : Int) (w : World) :
    Calls Tryd.prog 87 #[.agg #[.int .i64 y, .int .i64 m, .int .i64 d], .int .i64 (rk f)] w fun e w' => e = .returned (.bool (vb f y m d)) ∧ Below w.heap.size w w' := by
  by_cases hy : 1 ≤ y ∧ y ≤ 2000
  · have Y := Lib.hid (impl_year_yes y hy.1 hy.2)
    by_cases h3 : 1 ≤ m
    · by_cases h4 : m ≤ 12
      · by_cases h5 : 1 ≤ d
        · have hv := Lib.hid (show decide (d ≤ Cal.mlen f y m) = vb f y m d by simp [vb, Cal.valid, hy.1, hy.2, h3, h4, h5])
          have M := Lib.hid (impl_mlen f y m (by omega))
          clear hy
          go_enter Tryd.func87, Tryd.ntmps87
          go_wp2
          go_quiet (first | (go_at_call 99; exact Calls.quiet_of_same ((Y.out _).mono fun _ _ ⟨a, b⟩ => ⟨a, b.symm⟩)) | (go_at_call 70; exact Calls.quiet_of_same ((M.out _).mono fun _ _ ⟨a, b⟩ => ⟨a, b.symm⟩)))
          go_wp2
          go_ret
          exact ⟨ret_bool hv.out, below_drewN ((Below.refl _ _).alloc (Nat.le_refl _) _) _⟩
        · have hv := Lib.hid (show vb f y m d = false from vb_false (fun h => h5 h.2.2.2.2.1))
          have hd : decide (1 ≤ d) = false := by simpa using h5
          clear h5 hy
          go_enter Tryd.func87, Tryd.ntmps87
          go_wp2
          go_quiet ((go_at_call 99; exact Calls.quiet_of_same ((Y.out _).mono fun _ _ ⟨a, b⟩ => ⟨a, b.symm⟩)))
          go_wp2
          go_ret
          exact ⟨ret_bool hv.out.symm, below_drewN ((Below.refl _ _).alloc (Nat.le_refl _) _) _⟩
      · have hv := Lib.hid (show vb f y m d = false from vb_false (fun h => h4 h.2.2.2.1))
        have hd : decide (m ≤ 12) = false := by simpa using h4
        clear h4 hy
        go_enter Tryd.func87, Tryd.ntmps87
        go_wp2
        go_quiet ((go_at_call 99; exact Calls.quiet_of_same ((Y.out _).mono fun _ _ ⟨a, b⟩ => ⟨a, b.symm⟩)))
        go_wp2
        go_ret
        exact ⟨ret_bool hv.out.symm, below_drewN ((Below.refl _ _).alloc (Nat.le_refl _) _) _⟩
    · have hv := Lib.hid (show vb f y m d = false from vb_false (fun h => h3 h.2.2.1))
      have hd : decide (1 ≤ m) = false := by simpa using h3
      clear h3 hy
      go_enter Tryd.func87, Tryd.ntmps87
      go_wp2
      go_quiet ((go_at_call 99; exact Calls.quiet_of_same ((Y.out _).mono fun _ _ ⟨a, b⟩ => ⟨a, b.symm⟩)))
      go_wp2
      go_ret
      exact ⟨ret_bool hv.out.symm, below_drewN ((Below.refl _ _).alloc (Nat.le_refl _) _) _⟩
  · have hv := Lib.hid (show vb f y m d = false from vb_false (fun h => hy ⟨h.1, h.2.1⟩))
    have Y := Lib.hid (impl_year_no y hy)
    clear hy
    go_enter Tryd.func87, Tryd.ntmps87
    go_wp2
    go_quiet ((go_at_call 99; exact Calls.quiet_of_same ((Y.out _).mono fun _ _ ⟨a, b⟩ => ⟨a, b.symm⟩)))
    go_wp2
    go_ret
    exact ⟨ret_bool hv.out.symm, below_drewN ((Below.refl _ _).alloc (Nat.le_refl _) _) _⟩

end Go.Proofs.YtfhcakpmlppbkaaDoor
