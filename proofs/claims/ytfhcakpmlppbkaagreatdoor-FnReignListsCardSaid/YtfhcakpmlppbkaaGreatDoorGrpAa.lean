/- Texts of a claim in one file: Cal Days. -/
import Derived.WalkKit
import Derived.Test.YtfhcakpmlppbkaaGreatDoorProg
import Derived.WalkSpells
import Derived.WalkLawsBesides
import Derived.Deep.QuietTactic
import Derived.BigQuiet
import Derived.Lib.Hide
namespace Go.Proofs.YtfhcakpmlppbkaaGreatDoor
namespace Cal

def lp (f : Bool) (y : Int) : Bool := if f = true ∧ y % 100 = 0 then (y % 400 == 0) else (y % 4 == 0)
def mlen (f : Bool) (y m : Int) : Int :=
  if m = 2 then (if lp f y then 29 else 28) else if m = 4 ∨ m = 6 ∨ m = 9 ∨ m = 11 then 30 else 31
def valid (f : Bool) (y m d : Int) : Prop := 1 ≤ y ∧ y ≤ 2000 ∧ 1 ≤ m ∧ m ≤ 12 ∧ 1 ≤ d ∧ d ≤ mlen f y m
instance (f : Bool) (y m d : Int) : Decidable (valid f y m d) := by unfold valid; infer_instance
def ys (f : Bool) (y : Int) : Int := if f then (y - 1) * 365 + (y - 1) / 4 + (2 - (y - 1) / 100 + (y - 1) / 400) else (y - 1) * 365 + (y - 1) / 4
def cumN (f : Bool) (y : Int) : Nat → Int
  | 0 => 0
  | k + 1 => cumN f y k + mlen f y (k + 1)
def cum (f : Bool) (y m : Int) : Int := cumN f y (m - 1).toNat
def num (f : Bool) (y m d : Int) : Int := ys f y + cum f y m + d - 1

theorem mlen_bd (f : Bool) (y m : Int) : 28 ≤ mlen f y m ∧ mlen f y m ≤ 31 := by
  unfold mlen; split <;> (try split) <;> omega

theorem cum_succ (f : Bool) (y m : Int) (h : 1 ≤ m) : cum f y (m + 1) = cum f y m + mlen f y m := by
  unfold cum
  obtain ⟨k, rfl⟩ : ∃ k : Nat, m = k + 1 := ⟨(m - 1).toNat, by omega⟩
  have h1 : ((k : Int) + 1 + 1 - 1).toNat = k + 1 := by omega
  have h2 : ((k : Int) + 1 - 1).toNat = k := by omega
  rw [h1, h2]; rfl

theorem cum_one (f : Bool) (y : Int) : cum f y 1 = 0 := rfl

theorem cum_13 (f : Bool) (y : Int) : cum f y 13 = 365 + (if lp f y then 1 else 0) := by
  have : cum f y 13 = cumN f y 12 := rfl
  rw [this]
  simp only [cumN]
  unfold mlen
  simp
  split <;> omega

theorem ys_succ (f : Bool) (y : Int) : ys f (y + 1) = ys f y + 365 + (if lp f y then 1 else 0) := by
  unfold ys lp
  cases f <;> simp <;> (repeat split) <;> omega

theorem cumN_mono (f : Bool) (y : Int) (a b : Nat) (h : a ≤ b) : cumN f y a + 28 * (b - a : Nat) ≤ cumN f y b := by
  induction b with
  | zero => have : a = 0 := by omega
            subst this; simp
  | succ b ih =>
    by_cases hb : a = b + 1
    · subst hb; simp
    · have := ih (by omega)
      have m := mlen_bd f y (b + 1)
      have e : cumN f y (b + 1) = cumN f y b + mlen f y (b + 1) := rfl
      rw [e]; omega

theorem cum_mono (f : Bool) (y a b : Int) (h1 : 1 ≤ a) (h : a ≤ b) : cum f y a + 28 * (b - a) ≤ cum f y b := by
  unfold cum
  have := cumN_mono f y (a - 1).toNat (b - 1).toNat (by omega)
  omega

theorem cum_nonneg (f : Bool) (y m : Int) (h1 : 1 ≤ m) : 0 ≤ cum f y m := by
  have := cum_mono f y 1 m (by omega) h1
  rw [cum_one] at this; omega

theorem ys_mono (f : Bool) (a b : Int) (h : a ≤ b) : ys f a + 365 * (b - a) ≤ ys f b := by
  obtain ⟨k, rfl⟩ : ∃ k : Nat, b = a + k := ⟨(b - a).toNat, by omega⟩
  clear h
  induction k with
  | zero => simp
  | succ k ih =>
    have := ys_succ f (a + k)
    have e : a + ((k + 1 : Nat) : Int) = a + k + 1 := by omega
    rw [e, this]
    split <;> omega

theorem ys_1 (f : Bool) : ys f 1 = if f then 2 else 0 := by cases f <;> rfl
theorem ys_2001 (f : Bool) : ys f 2001 = if f then 730487 else 730500 := by cases f <;> rfl

theorem ys_bd (f : Bool) (y : Int) (h1 : 1 ≤ y) (h2 : y ≤ 2001) : 0 ≤ ys f y ∧ ys f y ≤ 730500 := by
  have a := ys_mono f 1 y h1
  have b := ys_mono f y 2001 h2
  rw [ys_1] at a; rw [ys_2001] at b
  cases f <;> simp at a b <;> omega

theorem cum_bd (f : Bool) (y m : Int) (h1 : 1 ≤ m) (h2 : m ≤ 13) : 0 ≤ cum f y m ∧ cum f y m + 28 * (13 - m) ≤ 366 := by
  refine ⟨cum_nonneg f y m h1, ?_⟩
  have := cum_mono f y m 13 h1 h2
  rw [cum_13] at this
  split at this <;> omega

/-- within a year a date's number lies in the year. -/
theorem num_in (f : Bool) {y m d : Int} (h : valid f y m d) : ys f y ≤ num f y m d ∧ num f y m d < ys f (y + 1) := by
  obtain ⟨h1, h2, h3, h4, h5, h6⟩ := h
  unfold num
  have a := cum_bd f y m h3 (by omega)
  refine ⟨by omega, ?_⟩
  have b := cum_succ f y m h3
  have c := cum_mono f y (m + 1) 13 (by omega) (by omega)
  rw [ys_succ]; rw [cum_13] at c
  omega

theorem num_range (f : Bool) {y m d : Int} (h : valid f y m d) : ys f 1 ≤ num f y m d ∧ num f y m d < ys f 2001 := by
  have a := num_in f h
  have b := ys_mono f 1 y h.1
  have c := ys_mono f (y + 1) 2001 (by have := h.2.1; omega)
  have h2 := h.1
  have h3 := h.2.1
  omega

theorem num_inj (f : Bool) {y m d y' m' d' : Int} (h : valid f y m d) (h' : valid f y' m' d') (e : num f y m d = num f y' m' d') : y = y' ∧ m = m' ∧ d = d' := by
  have a := num_in f h
  have a' := num_in f h'
  have hy : y = y' := by
    rcases Int.lt_trichotomy y y' with l | l | l
    · have := ys_mono f (y + 1) y' (by omega); omega
    · exact l
    · have := ys_mono f (y' + 1) y (by omega); omega
  subst hy
  obtain ⟨_, _, h3, h4, h5, h6⟩ := h
  obtain ⟨_, _, k3, k4, k5, k6⟩ := h'
  unfold num at e
  have hm : m = m' := by
    rcases Int.lt_trichotomy m m' with l | l | l
    · have := cum_mono f y (m + 1) m' (by omega) (by omega)
      have := cum_succ f y m h3; omega
    · exact l
    · have := cum_mono f y (m' + 1) m (by omega) (by omega)
      have := cum_succ f y m' k3; omega
  subst hm
  exact ⟨rfl, rfl, by omega⟩

end Cal
namespace Cal
theorem guess_lo (f : Bool) (n : Int) (h1 : ys f 1 ≤ n) : ys f (1 + (n - ys f 1) * 4 / 1461) ≤ n := by
  rw [ys_1] at *
  unfold ys
  cases f <;> simp at * <;> omega
theorem guess_hi (f : Bool) (n : Int) (h1 : ys f 1 ≤ n) (h2 : n < ys f 2001) : n < ys f (1 + (n - ys f 1) * 4 / 1461 + 2) := by
  rw [ys_2001] at h2
  rw [ys_1] at *
  unfold ys
  cases f <;> simp at * <;> omega
theorem guess_bd (f : Bool) (n : Int) (h1 : ys f 1 ≤ n) (h2 : n < ys f 2001) : 1 ≤ 1 + (n - ys f 1) * 4 / 1461 ∧ 1 + (n - ys f 1) * 4 / 1461 ≤ 2000 := by
  rw [ys_2001] at h2
  rw [ys_1] at *
  cases f <;> simp at * <;> omega
theorem sguess_lo (f : Bool) (n : Int) (h1 : ys f 1 ≤ n) : ys f ((n - ys f 1) / 366 + 1) ≤ n := by
  rw [ys_1] at *
  unfold ys
  cases f <;> simp at * <;> omega
theorem sguess_bd (f : Bool) (n : Int) (h1 : ys f 1 ≤ n) (h2 : n ≤ 730499) : 1 ≤ (n - ys f 1) / 366 + 1 ∧ (n - ys f 1) / 366 + 1 ≤ 2000 := by
  rw [ys_1] at *
  cases f <;> simp at * <;> omega
end Cal
end Go.Proofs.YtfhcakpmlppbkaaGreatDoor

namespace Go.Proofs.YtfhcakpmlppbkaaGreatDoor
open Go.RowKit

/-- The word for a calendar: false is the old one, true the new one. -/
def rk (f : Bool) : Int := if f then 1 else 0

theorem ret_bool {a b : Bool} (h : a = b) : Ending.returned (.bool a) = .returned (.bool b) := by rw [h]
theorem ret_int {k : IntKind} {a b : Int} (h : a = b) : Ending.returned (.int k a) = .returned (.int k b) := by rw [h]

theorem ret_ii {k l : IntKind} {a b c d : Int} (h : a = b) (h' : c = d) : Ending.returned (.tuple #[.int k a, .int l c]) = .returned (.tuple #[.int k b, .int l d]) := by rw [h, h']
theorem bcell {W w1 : World} (hb : Below W.heap.size W w1) : (∀ b o, b < W.heap.size → w1.cell? ⟨b, o, none⟩ = W.cell? ⟨b, o, none⟩) ∧ (∀ b o, b < W.heap.size → w1.frozen? ⟨b, o, none⟩ = W.frozen? ⟨b, o, none⟩) :=
  ⟨fun b o h => hb.cell (p := ⟨b, o, none⟩) h, fun b o h => hb.frozen (p := ⟨b, o, none⟩) h⟩

/-! ### impl -/
set_option maxHeartbeats 400000 in
theorem impl_leap (f : Bool) (y : Int) (h0 : 0 ≤ y) (w : World) :
    Calls Tryz.prog 143 #[.int .i64 (rk f), .int .i64 y] w fun e w' => e = .returned (.bool (Cal.lp f y)) ∧ w = w' := by
  cases f
  · show Calls Tryz.prog 143 #[.int .i64 0, .int .i64 y] w _
    go_enter Tryz.func143, Tryz.ntmps143
    go_wp2
    go_ret
    exact ⟨ret_bool (by simp [Cal.lp]), rfl⟩
  · show Calls Tryz.prog 143 #[.int .i64 1, .int .i64 y] w _
    by_cases h : y % 100 = 0
    · have hb : (y % 100 == 0) = true := by simpa using h
      have hL := Lib.hid (show (y % 400 == 0) = Cal.lp true y by simp [Cal.lp, h])
      clear h
      go_enter Tryz.func143, Tryz.ntmps143
      go_wp2
      go_ret
      exact ⟨ret_bool hL.out, rfl⟩
    · have hb : (y % 100 == 0) = false := by simpa using h
      have hL := Lib.hid (show (y % 4 == 0) = Cal.lp true y by simp [Cal.lp, h])
      clear h
      go_enter Tryz.func143, Tryz.ntmps143
      go_wp2
      go_ret
      exact ⟨ret_bool hL.out, rfl⟩

set_option maxHeartbeats 400000 in
theorem impl_mlen (f : Bool) (y m : Int) (h0 : 0 ≤ y) (w : World) :
    Calls Tryz.prog 116 #[.int .i64 (rk f), .int .i64 y, .int .i64 m] w fun e w' => e = .returned (.int .i64 (Cal.mlen f y m)) ∧ w = w' := by
  by_cases h2 : m = 2
  · subst h2
    go_enter Tryz.func116, Tryz.ntmps116
    go_wp2_with (go_at_call 143; refine (impl_leap f y h0 _).mono ?_; rintro e w' ⟨rfl, rfl⟩)
    all_goals
      go_ret
      exact ⟨ret_int (by simp [Cal.mlen, *]), rfl⟩
  · have hL := Lib.hid (show (if m = 4 ∨ m = 6 ∨ m = 9 ∨ m = 11 then 30 else 31) = Cal.mlen f y m by simp [Cal.mlen, h2])
    have h2b : (m == 2) = false := by simpa using h2
    clear h2
    go_enter Tryz.func116, Tryz.ntmps116
    go_wp2_with fail
    all_goals
      go_ret
      exact ⟨ret_int (by rw [← hL.out]; simp_all), rfl⟩

set_option maxHeartbeats 400000 in
theorem impl_ys (f : Bool) (y : Int) (h0 : 1 ≤ y) (h1 : y ≤ 2001) (w : World) :
    Calls Tryz.prog 115 #[.int .i64 (rk f), .int .i64 y] w fun e w' => e = .returned (.int .i64 (Cal.ys f y)) ∧ w = w' := by
  cases f
  · show Calls Tryz.prog 115 #[.int .i64 0, .int .i64 y] w _
    go_enter Tryz.func115, Tryz.ntmps115
    go_wp2
    go_ret
    exact ⟨ret_int (by simp [Cal.ys]), rfl⟩
  · show Calls Tryz.prog 115 #[.int .i64 1, .int .i64 y] w _
    go_enter Tryz.func115, Tryz.ntmps115
    go_wp2
    go_ret
    exact ⟨ret_int (by simp [Cal.ys]), rfl⟩

/-- A date of a calendar, as a Bool that no rule opens. -/
def vb (f : Bool) (y m d : Int) : Bool := decide (Cal.valid f y m d)
theorem vb_true {f : Bool} {y m d : Int} (h : Cal.valid f y m d) : vb f y m d = true := by simp [vb, h]
theorem vb_false {f : Bool} {y m d : Int} (h : ¬ Cal.valid f y m d) : vb f y m d = false := by simp [vb, h]
theorem vb_iff {f : Bool} {y m d : Int} : vb f y m d = true ↔ Cal.valid f y m d := by simp [vb]

set_option maxHeartbeats 400000 in
theorem impl_isYear (y : Int) (b : Bool) (hb : decide (1 ≤ y ∧ y ≤ 2000) = b) (w : World) :
    Calls Tryz.prog 158 #[.int .i64 y] w fun e w' => e = .returned (.bool b) ∧ w = w' := by
  by_cases h1 : 1 ≤ y
  · have hv := Lib.hid (show decide (y ≤ 2000) = b by simpa [h1] using hb)
    clear hb
    go_enter Tryz.func158, Tryz.ntmps158
    go_wp2
    go_ret
    exact ⟨ret_bool hv.out, rfl⟩
  · have hv := Lib.hid (show false = b by simpa [h1] using hb)
    have hd : decide (1 ≤ y) = false := by simpa using h1
    clear h1 hb
    go_enter Tryz.func158, Tryz.ntmps158
    go_wp2
    go_ret
    exact ⟨ret_bool hv.out, rfl⟩

theorem impl_year_yes (y : Int) (h1 : 1 ≤ y) (h2 : y ≤ 2000) (w : World) : Calls Tryz.prog 158 #[.int .i64 y] w fun e w' => e = .returned (.bool true) ∧ w = w' :=
  impl_isYear y true (decide_eq_true ⟨h1, h2⟩) w
theorem impl_year_no (y : Int) (h : ¬ (1 ≤ y ∧ y ≤ 2000)) (w : World) : Calls Tryz.prog 158 #[.int .i64 y] w fun e w' => e = .returned (.bool false) ∧ w = w' :=
  impl_isYear y false (decide_eq_false h) w

set_option maxHeartbeats 400000 in
theorem impl_isIn (f : Bool) (y m d : Int) (w : World) :
    Calls Tryz.prog 144 #[.agg #[.int .i64 y, .int .i64 m, .int .i64 d], .int .i64 (rk f)] w fun e w' => e = .returned (.bool (vb f y m d)) ∧ Below w.heap.size w w' := by
  by_cases hy : 1 ≤ y ∧ y ≤ 2000
  · have Y := Lib.hid (impl_year_yes y hy.1 hy.2)
    by_cases h3 : 1 ≤ m
    · by_cases h4 : m ≤ 12
      · by_cases h5 : 1 ≤ d
        · have hv := Lib.hid (show decide (d ≤ Cal.mlen f y m) = vb f y m d by simp [vb, Cal.valid, hy.1, hy.2, h3, h4, h5])
          have M := Lib.hid (impl_mlen f y m (by omega))
          clear hy
          go_enter Tryz.func144, Tryz.ntmps144
          go_wp2
          go_quiet (first | (go_at_call 158; exact Calls.quiet_of_same ((Y.out _).mono fun _ _ ⟨a, b⟩ => ⟨a, b.symm⟩)) | (go_at_call 116; exact Calls.quiet_of_same ((M.out _).mono fun _ _ ⟨a, b⟩ => ⟨a, b.symm⟩)))
          go_wp2
          go_ret
          exact ⟨ret_bool hv.out, below_drewN ((Below.refl _ _).alloc (Nat.le_refl _) _) _⟩
        · have hv := Lib.hid (show vb f y m d = false from vb_false (fun h => h5 h.2.2.2.2.1))
          have hd : decide (1 ≤ d) = false := by simpa using h5
          clear h5 hy
          go_enter Tryz.func144, Tryz.ntmps144
          go_wp2
          go_quiet ((go_at_call 158; exact Calls.quiet_of_same ((Y.out _).mono fun _ _ ⟨a, b⟩ => ⟨a, b.symm⟩)))
          go_wp2
          go_ret
          exact ⟨ret_bool hv.out.symm, below_drewN ((Below.refl _ _).alloc (Nat.le_refl _) _) _⟩
      · have hv := Lib.hid (show vb f y m d = false from vb_false (fun h => h4 h.2.2.2.1))
        have hd : decide (m ≤ 12) = false := by simpa using h4
        clear h4 hy
        go_enter Tryz.func144, Tryz.ntmps144
        go_wp2
        go_quiet ((go_at_call 158; exact Calls.quiet_of_same ((Y.out _).mono fun _ _ ⟨a, b⟩ => ⟨a, b.symm⟩)))
        go_wp2
        go_ret
        exact ⟨ret_bool hv.out.symm, below_drewN ((Below.refl _ _).alloc (Nat.le_refl _) _) _⟩
    · have hv := Lib.hid (show vb f y m d = false from vb_false (fun h => h3 h.2.2.1))
      have hd : decide (1 ≤ m) = false := by simpa using h3
      clear h3 hy
      go_enter Tryz.func144, Tryz.ntmps144
      go_wp2
      go_quiet ((go_at_call 158; exact Calls.quiet_of_same ((Y.out _).mono fun _ _ ⟨a, b⟩ => ⟨a, b.symm⟩)))
      go_wp2
      go_ret
      exact ⟨ret_bool hv.out.symm, below_drewN ((Below.refl _ _).alloc (Nat.le_refl _) _) _⟩
  · have hv := Lib.hid (show vb f y m d = false from vb_false (fun h => hy ⟨h.1, h.2.1⟩))
    have Y := Lib.hid (impl_year_no y hy)
    clear hy
    go_enter Tryz.func144, Tryz.ntmps144
    go_wp2
    go_quiet ((go_at_call 158; exact Calls.quiet_of_same ((Y.out _).mono fun _ _ ⟨a, b⟩ => ⟨a, b.symm⟩)))
    go_wp2
    go_ret
    exact ⟨ret_bool hv.out.symm, below_drewN ((Below.refl _ _).alloc (Nat.le_refl _) _) _⟩

end Go.Proofs.YtfhcakpmlppbkaaGreatDoor
