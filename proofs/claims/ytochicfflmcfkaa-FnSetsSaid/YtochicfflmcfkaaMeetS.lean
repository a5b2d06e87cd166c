/- MeetSets of both. -/
import Derived.Test.YtochicfflmcfkaaMeet
import Derived.Test.YtochicfflmcfkaaSetC
namespace Go.Proofs.Ytochicfflmcfkaa.Sets
open Go.RowKit

/-- A set that is answered, if what came in were sets and it isn't too long; and the code. -/
def resV (ok : Bool) (xs : L) : L := if ok then (if xs.length ≤ 300 then xs else []) else []
def resE (ok : Bool) (xs : L) : Int := if ok then (if xs.length ≤ 300 then 0 else 3) else 1
theorem res_len (b : Bool) (xs : L) : (resV b xs).length ≤ 2000000 := by
  unfold resV; split
  · split
    · omega
    · simp
  · simp
def SetOut (xs : L) (c : Int) (w : World) (e : Ending) (w' : World) : Prop :=
  ∃ A cap, e = .returned (.tuple #[.slice A xs.length cap, .int .i64 c]) ∧ Row w' w.heap.size w'.heap.size A xs.length cap xs ∧ Below w.heap.size w w'

theorem impl_res_short (A : Option Addr) (n c : Nat) (h : n ≤ 300) (w : World) :
    Calls Try.prog 48 #[.slice A n c] w fun e w' => e = .returned (.tuple #[.slice A n c, .int .i64 0]) ∧ w = w' := by
  go_enter Try.func48, Try.ntmps48
  go_wp2_with fail
  go_ret2
  exact ⟨rfl, rfl⟩
theorem impl_res_long (A : Option Addr) (n c : Nat) (h : ¬ n ≤ 300) (w : World) :
    Calls Try.prog 48 #[.slice A n c] w fun e w' => e = .returned (.tuple #[.slice none 0 0, .int .i64 3]) ∧ w = w' := by
  have h' : 300 < n := by omega
  clear h
  go_enter Try.func48, Try.ntmps48
  go_wp2_with fail
  go_ret2
  exact ⟨rfl, rfl⟩
theorem spec_res_short (A : Option Addr) (n c : Nat) (h : n ≤ 300) (w : World) :
    Calls Try.prog 50 #[.slice A n c] w fun e w' => e = .returned (.tuple #[.slice A n c, .int .i64 0]) ∧ w = w' := by
  go_enter Try.func50, Try.ntmps50
  go_wp2_with fail
  go_ret2
  exact ⟨rfl, rfl⟩
theorem spec_res_long (A : Option Addr) (n c : Nat) (h : ¬ n ≤ 300) (w : World) :
    Calls Try.prog 50 #[.slice A n c] w fun e w' => e = .returned (.tuple #[.slice none 0 0, .int .i64 3]) ∧ w = w' := by
  have h' : 300 < n := by omega
  clear h
  go_enter Try.func50, Try.ntmps50
  go_wp2_with fail
  go_ret2
  exact ⟨rfl, rfl⟩

theorem impl_MeetSets (A1 A2 : Option Addr) (n1 n2 c1 c2 : Nat) (xs ys : L) (hn1 : n1 ≤ maxLen) (hn2 : n2 ≤ maxLen) (h1 : n1 ≤ c1) (h2 : n2 ≤ c2) (w : World) (hx : Rd w A1 n1 xs) (hy : Rd w A2 n2 ys) :
    Calls Try.prog 18 #[.slice A1 n1 c1, .slice A2 n2 c2] w (SetOut (resV (setB xs && setB ys) (meet xs ys)) (resE (setB xs && setB ys) (meet xs ys)) w) := by
  have N1 := Lib.hid hn1
  have N2 := Lib.hid hn2
  clear hn1 hn2
  by_cases hs : setB xs = true
  · by_cases ht : setB ys = true
    · have L1 : n1 ≤ 300 := by have := set_len hs; have := hx.1; omega
      have L2 : n2 ≤ 300 := by have := set_len ht; have := hy.1; omega
      have S1 := Lib.hid hs
      have S2 := Lib.hid ht
      rw [hs, ht]
      clear hs ht
      by_cases hl : (meet xs ys).length ≤ 300
      · have EV : resV (true && true) (meet xs ys) = meet xs ys := by simp [resV, hl]
        have EE : resE (true && true) (meet xs ys) = 0 := by simp [resE, hl]
        have HL := Lib.hid hl
        rw [EV, EE]
        clear EV EE hl
        go_enter Try.func18, Try.ntmps18
        go_wp2_with fail
        refine (impl_IsSetB A1 n1 c1 xs true S1.out N1.out _ hx).mono ?_
        rintro e w1 ⟨rfl, b1⟩
        go_wp2_with fail
        refine (impl_IsSetB A2 n2 c2 ys true S2.out N2.out _ (hy.below b1)).mono ?_
        rintro e w2 ⟨rfl, b2⟩
        have k2 := below_on b1 b2
        go_wp2_with fail
        refine (impl_meetT (meet xs ys) (n1 + n2) A1 A2 n1 n2 c1 c2 xs ys (Lib.hid rfl) (Nat.le_refl _) (by omega) h1 h2 _ (hx.below k2) (hy.below k2)).mono ?_
        rintro e w3 ⟨A3, c3, rfl, r3, b3⟩
        have k3 := below_on k2 b3
        go_wp2_with fail
        refine (impl_res_short A3 _ c3 HL.out _).mono ?_
        rintro e w4 ⟨rfl, rfl⟩
        go_wp2_with fail
        go_ret2
        exact ⟨_, _, rfl, (r3.mono k2.size (Nat.le_refl _) (Nat.le_refl _)), k3⟩
      · have EV : resV (true && true) (meet xs ys) = [] := by simp [resV, hl]
        have EE : resE (true && true) (meet xs ys) = 3 := by simp [resE, hl]
        have HL := Lib.hid hl
        rw [EV, EE]
        clear EV EE hl
        go_enter Try.func18, Try.ntmps18
        go_wp2_with fail
        refine (impl_IsSetB A1 n1 c1 xs true S1.out N1.out _ hx).mono ?_
        rintro e w1 ⟨rfl, b1⟩
        go_wp2_with fail
        refine (impl_IsSetB A2 n2 c2 ys true S2.out N2.out _ (hy.below b1)).mono ?_
        rintro e w2 ⟨rfl, b2⟩
        have k2 := below_on b1 b2
        go_wp2_with fail
        refine (impl_meetT (meet xs ys) (n1 + n2) A1 A2 n1 n2 c1 c2 xs ys (Lib.hid rfl) (Nat.le_refl _) (by omega) h1 h2 _ (hx.below k2) (hy.below k2)).mono ?_
        rintro e w3 ⟨A3, c3, rfl, r3, b3⟩
        have k3 := below_on k2 b3
        go_wp2_with fail
        refine (impl_res_long A3 _ c3 HL.out _).mono ?_
        rintro e w4 ⟨rfl, rfl⟩
        go_wp2_with fail
        go_ret2
        exact ⟨none, 0, rfl, Row.nil (Nat.le_refl _), k3⟩
    · have ht' : setB ys = false := by simpa using ht
      have S1 := Lib.hid hs
      have S2 := Lib.hid ht'
      rw [hs, ht']
      clear hs ht ht'
      go_enter Try.func18, Try.ntmps18
      go_wp2_with fail
      refine (impl_IsSetB A1 n1 c1 xs true S1.out N1.out _ hx).mono ?_
      rintro e w1 ⟨rfl, b1⟩
      go_wp2_with fail
      refine (impl_IsSetB A2 n2 c2 ys false S2.out N2.out _ (hy.below b1)).mono ?_
      rintro e w2 ⟨rfl, b2⟩
      have k2 := below_on b1 b2
      go_wp2_with fail
      go_ret2
      exact ⟨none, 0, rfl, Row.nil (Nat.le_refl _), k2⟩
  · have hs' : setB xs = false := by simpa using hs
    have S1 := Lib.hid hs'
    rw [hs']
    clear hs hs'
    go_enter Try.func18, Try.ntmps18
    go_wp2_with fail
    refine (impl_IsSetB A1 n1 c1 xs false S1.out N1.out _ hx).mono ?_
    rintro e w1 ⟨rfl, b1⟩
    go_wp2_with fail
    go_ret2
    exact ⟨none, 0, rfl, Row.nil (Nat.le_refl _), b1⟩

theorem spec_MeetSets (A1 A2 : Option Addr) (n1 n2 c1 c2 : Nat) (xs ys : L) (hn1 : n1 ≤ maxLen) (hn2 : n2 ≤ maxLen) (w : World) (hx : Rd w A1 n1 xs) (hy : Rd w A2 n2 ys) :
    Calls Try.prog 19 #[.slice A1 n1 c1, .slice A2 n2 c2] w (SetOut (resV (setB xs && setB ys) (meet xs ys)) (resE (setB xs && setB ys) (meet xs ys)) w) := by
  have N1 := Lib.hid hn1
  have N2 := Lib.hid hn2
  clear hn1 hn2
  by_cases hs : setB xs = true
  · by_cases ht : setB ys = true
    · have L1 : n1 ≤ 300 := by have := set_len hs; have := hx.1; omega
      have L2 : n2 ≤ 300 := by have := set_len ht; have := hy.1; omega
      have S1 := Lib.hid hs
      have S2 := Lib.hid ht
      rw [hs, ht]
      clear hs ht
      by_cases hl : (meet xs ys).length ≤ 300
      · have EV : resV (true && true) (meet xs ys) = meet xs ys := by simp [resV, hl]
        have EE : resE (true && true) (meet xs ys) = 0 := by simp [resE, hl]
        have HL := Lib.hid hl
        rw [EV, EE]
        clear EV EE hl
        go_enter Try.func19, Try.ntmps19
        go_wp2_with fail
        refine (spec_IsSetB A1 n1 c1 xs true S1.out N1.out _ hx).mono ?_
        rintro e w1 ⟨rfl, b1⟩
        go_wp2_with fail
        refine (spec_IsSetB A2 n2 c2 ys true S2.out N2.out _ (hy.below b1)).mono ?_
        rintro e w2 ⟨rfl, b2⟩
        have k2 := below_on b1 b2
        go_wp2_with fail
        refine (spec_meetT (meet xs ys) (n1 + n2) A1 A2 n1 n2 c1 c2 xs ys (Lib.hid rfl) (Nat.le_refl _) (by omega) _ (hx.below k2) (hy.below k2)).mono ?_
        rintro e w3 ⟨A3, c3, rfl, r3, b3⟩
        have k3 := below_on k2 b3
        go_wp2_with fail
        refine (spec_res_short A3 _ c3 HL.out _).mono ?_
        rintro e w4 ⟨rfl, rfl⟩
        go_wp2_with fail
        go_ret2
        exact ⟨_, _, rfl, (r3.mono k2.size (Nat.le_refl _) (Nat.le_refl _)), k3⟩
      · have EV : resV (true && true) (meet xs ys) = [] := by simp [resV, hl]
        have EE : resE (true && true) (meet xs ys) = 3 := by simp [resE, hl]
        have HL := Lib.hid hl
        rw [EV, EE]
        clear EV EE hl
        go_enter Try.func19, Try.ntmps19
        go_wp2_with fail
        refine (spec_IsSetB A1 n1 c1 xs true S1.out N1.out _ hx).mono ?_
        rintro e w1 ⟨rfl, b1⟩
        go_wp2_with fail
        refine (spec_IsSetB A2 n2 c2 ys true S2.out N2.out _ (hy.below b1)).mono ?_
        rintro e w2 ⟨rfl, b2⟩
        have k2 := below_on b1 b2
        go_wp2_with fail
        refine (spec_meetT (meet xs ys) (n1 + n2) A1 A2 n1 n2 c1 c2 xs ys (Lib.hid rfl) (Nat.le_refl _) (by omega) _ (hx.below k2) (hy.below k2)).mono ?_
        rintro e w3 ⟨A3, c3, rfl, r3, b3⟩
        have k3 := below_on k2 b3
        go_wp2_with fail
        refine (spec_res_long A3 _ c3 HL.out _).mono ?_
        rintro e w4 ⟨rfl, rfl⟩
        go_wp2_with fail
        go_ret2
        exact ⟨none, 0, rfl, Row.nil (Nat.le_refl _), k3⟩
    · have ht' : setB ys = false := by simpa using ht
      have S1 := Lib.hid hs
      have S2 := Lib.hid ht'
      rw [hs, ht']
      clear hs ht ht'
      go_enter Try.func19, Try.ntmps19
      go_wp2_with fail
      refine (spec_IsSetB A1 n1 c1 xs true S1.out N1.out _ hx).mono ?_
      rintro e w1 ⟨rfl, b1⟩
      go_wp2_with fail
      refine (spec_IsSetB A2 n2 c2 ys false S2.out N2.out _ (hy.below b1)).mono ?_
      rintro e w2 ⟨rfl, b2⟩
      have k2 := below_on b1 b2
      go_wp2_with fail
      go_ret2
      exact ⟨none, 0, rfl, Row.nil (Nat.le_refl _), k2⟩
  · have hs' : setB xs = false := by simpa using hs
    have S1 := Lib.hid hs'
    rw [hs']
    clear hs hs'
    go_enter Try.func19, Try.ntmps19
    go_wp2_with fail
    refine (spec_IsSetB A1 n1 c1 xs false S1.out N1.out _ hx).mono ?_
    rintro e w1 ⟨rfl, b1⟩
    go_wp2_with fail
    go_ret2
    exact ⟨none, 0, rfl, Row.nil (Nat.le_refl _), b1⟩

end Go.Proofs.Ytochicfflmcfkaa.Sets
