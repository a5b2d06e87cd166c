/- Contracts of the functions of chapter 1 (days), of impl and of spec, as they are called; the calendar arithmetic stands in the text Cal. -/
import Derived.Test.YtfhcakpmlppbkaaGreatDoorProg
import Derived.Test.YtfhcakpmlppbkaaGreatDoorCal
import Derived.WalkKit
import Derived.WalkSpells
import Derived.WalkLawsBesides
import Derived.Deep.QuietTactic
import Derived.BigQuiet
import Derived.Lib.Hide
namespace Go.Proofs.YtfhcakpmlppbkaaGreatDoor
open Go.RowKit

/-- The word for a calendar: false is the old one, true the new one. -/
def rk (f : Bool) : Int := if f then 1 else 0

theorem ret_bool {a b : Bool} (h : a = b) : Ending.returned (.bool a) = .returned (.bool b) := by rw [h]
theorem ret_int {k : IntKind} {a b : Int} (h : a = b) : Ending.returned (.int k a) = .returned (.int k b) := by rw [h]

theorem ret_ii {k l : IntKind} {a b c d : Int} (h : a = b) (h' : c = d) : Ending.returned (.tuple #[.int k a, .int l c]) = .returned (.tuple #[.int k b, .int l d]) := by rw [h, h']
theorem bcell {W w1 : World} (hb : Below W.heap.size W w1) : (∀ b o, b < W.heap.size → w1.cell? ⟨b, o, none⟩ = W.cell? ⟨b, o, none⟩) ∧ (∀ b o, b < W.heap.size → w1.frozen? ⟨b, o, none⟩ = W.frozen? ⟨b, o, none⟩) :=
  ⟨fun b o h => hb.cell (p := ⟨b, o, none⟩) h, fun b o h => hb.frozen (p := ⟨b, o, none⟩) h⟩

/-! ### impl -/
set_option maxHeartbeats 400000 in
theorem impl_leap (f : Bool) (y : Int) (h0 : 0 ≤ y) (w : World) :
    Calls Tryz.prog 143 #[.int .i64 (rk f), .int .i64 y] w fun e w' => e = .returned (.bool (Cal.lp f y)) ∧ w = w' := by
  cases f
  · show Calls Tryz.prog 143 #[.int .i64 0, .int .i64 y] w _
    go_enter Tryz.func143, Tryz.ntmps143
    go_wp2
    go_ret
    exact ⟨ret_bool (by simp [Cal.lp]), rfl⟩
  · show Calls Tryz.prog 143 #[.int .i64 1, .int .i64 y] w _
    by_cases h : y % 100 = 0
    · have hb : (y % 100 == 0) = true := by simpa using h
      have hL := Lib.hid (show (y % 400 == 0) = Cal.lp true y by simp [Cal.lp, h])
      clear h
      go_enter Tryz.func143, Tryz.ntmps143
      go_wp2
      go_ret
      exact ⟨ret_bool hL.out, rfl⟩
    · have hb : (y % 100 == 0) = false := by simpa using h
      have hL := Lib.hid (show (y % 4 == 0) = Cal.lp true y by simp [Cal.lp, h])
      clear h
      go_enter Tryz.func143, Tryz.ntmps143
      go_wp2
      go_ret
      exact ⟨ret_bool hL.out, rfl⟩

set_option maxHeartbeats 400000 in
theorem impl_mlen (f : Bool) (y m : Int) (h0 : 0 ≤ y) (w : World) :
    Calls Tryz.prog 116 #[.int .i64 (rk f), .int .i64 y, .int .i64 m] w fun e w' => e = .returned (.int .i64 (Cal.mlen f y m)) ∧ w = w' := by
  by_cases h2 : m = 2
  · subst h2
    go_enter Tryz.func116, Tryz.ntmps116
    go_wp2_with (go_at_call 143; refine (impl_leap f y h0 _).mono ?_; rintro e w' ⟨rfl, rfl⟩)
    all_goals
      go_ret
      exact ⟨ret_int (by simp [Cal.mlen, *]), rfl⟩
  · have hL := Lib.hid (show (if m = 4 ∨ m = 6 ∨ m = 9 ∨ m = 11 then 30 else 31) = Cal.mlen f y m by simp [Cal.mlen, h2])
    have h2b : (m == 2) = false := by simpa using h2
    clear h2
    go_enter Tryz.func116, Tryz.ntmps116
    go_wp2_with fail
    all_goals
      go_ret
      exact ⟨ret_int (by rw [← hL.out]; simp_all), rfl⟩

set_option maxHeartbeats 400000 in
theorem impl_ys (f : Bool) (y : Int) (h0 : 1 ≤ y) (h1 : y ≤ 2001) (w : World) :
    Calls Tryz.prog 115 #[.int .i64 (rk f), .int .i64 y] w fun e w' => e = .returned (.int .i64 (Cal.ys f y)) ∧ w = w' := by
  cases f
  · show Calls Tryz.prog 115 #[.int .i64 0, .int .i64 y] w _
    go_enter Tryz.func115, Tryz.ntmps115
    go_wp2
    go_ret
    exact ⟨ret_int (by simp [Cal.ys]), rfl⟩
  · show Calls Tryz.prog 115 #[.int .i64 1, .int .i64 y] w _
    go_enter Tryz.func115, Tryz.ntmps115
    go_wp2
    go_ret
    exact ⟨ret_int (by simp [Cal.ys]), rfl⟩

/-- A date of a calendar, as a Bool that no rule opens. -/
def vb (f : Bool) (y m d : Int) : Bool := decide (Cal.valid f y m d)
theorem vb_true {f : Bool} {y m d : Int} (h : Cal.valid f y m d) : vb f y m d = true := by simp [vb, h]
theorem vb_false {f : Bool} {y m d : Int} (h : ¬ Cal.valid f y m d) : vb f y m d = false := by simp [vb, h]
theorem vb_iff {f : Bool} {y m d : Int} : vb f y m d = true ↔ Cal.valid f y m d := by simp [vb]

set_option maxHeartbeats 400000 in
theorem impl_isYear (y : Int) (b : Bool) (hb : decide (1 ≤ y ∧ y ≤ 2000) = b) (w : World) :
    Calls Tryz.prog 158 #[.int .i64 y] w fun e w' => e = .returned (.bool b) ∧ w = w' := by
  by_cases h1 : 1 ≤ y
  · have hv := Lib.hid (show decide (y ≤ 2000) = b by simpa [h1] using hb)
    clear hb
    go_enter Tryz.func158, Tryz.ntmps158
    go_wp2
    go_ret
    exact ⟨ret_bool hv.out, rfl⟩
  · have hv := Lib.hid (show false = b by simpa [h1] using hb)
    have hd : decide (1 ≤ y) = false := by simpa using h1
    clear h1 hb
    go_enter Tryz.func158, Tryz.ntmps158
    go_wp2
    go_ret
    exact ⟨ret_bool hv.out, rfl⟩

theorem impl_year_yes (y : Int) (h1 : 1 ≤ y) (h2 : y ≤ 2000) (w : World) : Calls Tryz.prog 158 #[.int .i64 y] w fun e w' => e = .returned (.bool true) ∧ w = w' :=
  impl_isYear y true (decide_eq_true ⟨h1, h2⟩) w
theorem impl_year_no (y : Int) (h : ¬ (1 ≤ y ∧ y ≤ 2000)) (w : World) : Calls Tryz.prog 158 #[.int .i64 y] w fun e w' => e = .returned (.bool false) ∧ w = w' :=
  impl_isYear y false (decide_eq_false h) w

set_option maxHeartbeats 400000 in
theorem impl_isIn (f : Bool) (y m d : Int) (w : World) :
    Calls Tryz.prog 144 #[.agg #[.int .i64 y, .int .i64 m, .int .i64 d], .int .i64 (rk f)] w fun e w' => e = .returned (.bool (vb f y m d)) ∧ Below w.heap.size w w' := by
  by_cases hy : 1 ≤ y ∧ y ≤ 2000
  · have Y := Lib.hid (impl_year_yes y hy.1 hy.2)
    by_cases h3 : 1 ≤ m
    · by_cases h4 : m ≤ 12
      · by_cases h5 : 1 ≤ d
        · have hv := Lib.hid (show decide (d ≤ Cal.mlen f y m) = vb f y m d by simp [vb, Cal.valid, hy.1, hy.2, h3, h4, h5])
          have M := Lib.hid (impl_mlen f y m (by omega))
          clear hy
          go_enter Tryz.func144, Tryz.ntmps144
          go_wp2
          go_quiet (first | (go_at_call 158; exact Calls.quiet_of_same ((Y.out _).mono fun _ _ ⟨a, b⟩ => ⟨a, b.symm⟩)) | (go_at_call 116; exact Calls.quiet_of_same ((M.out _).mono fun _ _ ⟨a, b⟩ => ⟨a, b.symm⟩)))
          go_wp2
          go_ret
          exact ⟨ret_bool hv.out, below_drewN ((Below.refl _ _).alloc (Nat.le_refl _) _) _⟩
        · have hv := Lib.hid (show vb f y m d = false from vb_false (fun h => h5 h.2.2.2.2.1))
          have hd : decide (1 ≤ d) = false := by simpa using h5
          clear h5 hy
          go_enter Tryz.func144, Tryz.ntmps144
          go_wp2
          go_quiet ((go_at_call 158; exact Calls.quiet_of_same ((Y.out _).mono fun _ _ ⟨a, b⟩ => ⟨a, b.symm⟩)))
          go_wp2
          go_ret
          exact ⟨ret_bool hv.out.symm, below_drewN ((Below.refl _ _).alloc (Nat.le_refl _) _) _⟩
      · have hv := Lib.hid (show vb f y m d = false from vb_false (fun h => h4 h.2.2.2.1))
        have hd : decide (m ≤ 12) = false := by simpa using h4
        clear h4 hy
        go_enter Tryz.func144, Tryz.ntmps144
        go_wp2
        go_quiet ((go_at_call 158; exact Calls.quiet_of_same ((Y.out _).mono fun _ _ ⟨a, b⟩ => ⟨a, b.symm⟩)))
        go_wp2
        go_ret
        exact ⟨ret_bool hv.out.symm, below_drewN ((Below.refl _ _).alloc (Nat.le_refl _) _) _⟩
    · have hv := Lib.hid (show vb f y m d = false from vb_false (fun h => h3 h.2.2.1))
      have hd : decide (1 ≤ m) = false := by simpa using h3
      clear h3 hy
      go_enter Tryz.func144, Tryz.ntmps144
      go_wp2
      go_quiet ((go_at_call 158; exact Calls.quiet_of_same ((Y.out _).mono fun _ _ ⟨a, b⟩ => ⟨a, b.symm⟩)))
      go_wp2
      go_ret
      exact ⟨ret_bool hv.out.symm, below_drewN ((Below.refl _ _).alloc (Nat.le_refl _) _) _⟩
  · have hv := Lib.hid (show vb f y m d = false from vb_false (fun h => hy ⟨h.1, h.2.1⟩))
    have Y := Lib.hid (impl_year_no y hy)
    clear hy
    go_enter Tryz.func144, Tryz.ntmps144
    go_wp2
    go_quiet ((go_at_call 158; exact Calls.quiet_of_same ((Y.out _).mono fun _ _ ⟨a, b⟩ => ⟨a, b.symm⟩)))
    go_wp2
    go_ret
    exact ⟨ret_bool hv.out.symm, below_drewN ((Below.refl _ _).alloc (Nat.le_refl _) _) _⟩

end Go.Proofs.YtfhcakpmlppbkaaGreatDoor
