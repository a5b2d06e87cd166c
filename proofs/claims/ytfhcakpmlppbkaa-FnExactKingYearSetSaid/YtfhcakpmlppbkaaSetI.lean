/- Whether a list of spans is a set: impl's IsSet and spec's. -/
import Derived.Test.YtfhcakpmlppbkaaRd
namespace Go.Proofs.Ytfhcakpmlppbkaa.Sets
open Go.RowKit

def okB (f t : Int) : Bool := decide (ok (f, t))
theorem okB_t {f t : Int} (h : ok (f, t)) : okB f t = true := decide_eq_true h
theorem okB_f {f t : Int} (h : ¬ ok (f, t)) : okB f t = false := decide_eq_false h

theorem cell_keep {w wx : World} {a : Addr} {v : Value} (hb : Below w.heap.size w wx) (h : w.cell? a = some v) : wx.cell? a = some v := (hb.cell (World.block_lt_of_cell? _ _ h)).trans h
theorem below_on {w w1 w2 : World} (h : Below w.heap.size w w1) (hb : Below w1.heap.size w1 w2) : Below w.heap.size w w2 := h.trans (hb.mono h.size)

/-- What a call leaves that answers a bool and changes nothing that was there. -/
def Bl (b : Bool) (w : World) (e : Ending) (w' : World) : Prop := e = .returned (.bool b) ∧ Below w.heap.size w w'

/-! ### A list read up to k -/
def lim (xs : L) (k : Nat) : Int := if h : 0 < k ∧ k - 1 < xs.length then xs[k - 1].2 + 2 else 0
def Upto (xs : L) (k : Nat) : Prop := (NF 0 xs ↔ NF (lim xs k) (xs.drop k)) ∧ ∀ (_ : 0 < k) (h : k - 1 < xs.length), 0 ≤ xs[k - 1].2 ∧ xs[k - 1].2 ≤ 730499
theorem upto_0 (xs : L) : Upto xs 0 := ⟨by simp [lim], fun h => absurd h (by omega)⟩
theorem lim_succ (xs : L) (k : Nat) (h : k < xs.length) : lim xs (k + 1) = xs[k].2 + 2 := by
  unfold lim
  rw [dif_pos ⟨by omega, by simpa using h⟩]
  simp
theorem upto_bad {xs : L} {k : Nat} (h : Upto xs k) (hk : k < xs.length) (ho : ¬ ok (xs[k].1, xs[k].2)) : ¬ NF 0 xs := by
  intro hn
  have h1 := h.1.1 hn
  rw [List.drop_eq_getElem_cons hk] at h1
  exact ho h1.2.1
theorem upto_near {xs : L} {k : Nat} (h : Upto xs (k + 1)) (hk : k + 1 < xs.length) (hl : xs[k + 1].1 < xs[k].2 + 2) : ¬ NF 0 xs := by
  intro hn
  have h1 := h.1.1 hn
  rw [List.drop_eq_getElem_cons hk, lim_succ xs k (by omega)] at h1
  have := h1.1
  omega
theorem upto_one {xs : L} (hk : 0 < xs.length) (ho : ok (xs[0].1, xs[0].2)) : Upto xs 1 := by
  refine ⟨?_, fun _ _ => by unfold ok at ho; simp only [Nat.sub_self] at *; omega⟩
  rw [lim_succ xs 0 hk]
  have e : xs = xs[0] :: xs.drop 1 := by
    have := List.drop_eq_getElem_cons hk
    rwa [List.drop_zero] at this
  constructor
  · intro h; rw [e] at h; exact h.2.2
  · intro h; rw [e]; exact ⟨ho.1, ho, h⟩
theorem upto_step {xs : L} {k : Nat} (h : Upto xs (k + 1)) (hk : k + 1 < xs.length) (ho : ok (xs[k + 1].1, xs[k + 1].2)) (hl : ¬ xs[k + 1].1 < xs[k].2 + 2) : Upto xs (k + 2) := by
  refine ⟨?_, fun _ _ => by unfold ok at ho; simp only [show k + 2 - 1 = k + 1 from rfl] at *; omega⟩
  rw [h.1, lim_succ xs k (by omega), lim_succ xs (k + 1) hk, List.drop_eq_getElem_cons hk]
  constructor
  · intro h; exact h.2.2
  · intro h; exact ⟨by omega, ho, h⟩
theorem upto_end {xs : L} {k : Nat} (h : Upto xs k) (hk : xs.length ≤ k) : NF 0 xs := by
  rw [h.1, List.drop_eq_nil_of_le hk]
  trivial
theorem setB_no {xs : L} (h : ¬ NF 0 xs) : setB xs = false := decide_eq_false fun hh => h hh.2
theorem setB_long {xs : L} (h : ¬ xs.length ≤ 300) : setB xs = false := decide_eq_false fun hh => h hh.1

/-! ### Days and spans -/
theorem ret_b {a b : Bool} (h : a = b) : Ending.returned (.bool a) = .returned (.bool b) := by rw [h]
theorem impl_isDay (n : Int) (b : Bool) (h : decide (0 ≤ n ∧ n ≤ 730499) = b) (w : World) :
    Calls Try.prog 49 #[.int .i64 n] w fun e w' => e = .returned (.bool b) ∧ w = w' := by
  subst h
  by_cases h0 : 0 ≤ n
  · by_cases h1 : n ≤ 730499
    · go_enter Try.func49, Try.ntmps49
      go_wp2
      go_ret
      exact ⟨ret_b (a := true) (decide_eq_true ⟨h0, h1⟩).symm, rfl⟩
    · have h1' : decide (n ≤ 730499) = false := by simpa using h1
      go_enter Try.func49, Try.ntmps49
      go_wp2
      go_ret
      exact ⟨rfl, rfl⟩
  · have h0' : decide (0 ≤ n) = false := by simpa using h0
    go_enter Try.func49, Try.ntmps49
    go_wp2
    go_ret
    exact ⟨rfl, rfl⟩
theorem spec_in (n lo hi : Int) (b : Bool) (h : decide (lo ≤ n ∧ n ≤ hi) = b) (w : World) :
    Calls Try.prog 55 #[.int .i64 n, .int .i64 lo, .int .i64 hi] w fun e w' => e = .returned (.bool b) ∧ w = w' := by
  subst h
  by_cases h0 : lo ≤ n
  · by_cases h1 : n ≤ hi
    · go_enter Try.func55, Try.ntmps55
      go_wp2
      go_ret
      exact ⟨ret_b (a := true) (decide_eq_true ⟨h0, h1⟩).symm, rfl⟩
    · have h1' : decide (n ≤ hi) = false := by simpa using h1
      go_enter Try.func55, Try.ntmps55
      go_wp2
      go_ret
      exact ⟨rfl, rfl⟩
  · have h0' : decide (lo ≤ n) = false := by simpa using h0
    go_enter Try.func55, Try.ntmps55
    go_wp2
    go_ret
    exact ⟨rfl, rfl⟩
theorem spec_day (n : Int) (b : Bool) (h : decide (0 ≤ n ∧ n ≤ 730499) = b) (w : World) :
    Calls Try.prog 54 #[.int .i64 n] w fun e w' => e = .returned (.bool b) ∧ w = w' := by
  have H := Lib.hid h
  clear h
  go_enter Try.func54, Try.ntmps54
  go_wp2_with fail
  refine (spec_in n 0 730499 b H.out _).mono ?_
  rintro e w' ⟨rfl, rfl⟩
  go_wp2_with fail
  go_ret
  exact ⟨rfl, rfl⟩

theorem impl_isValid (f t : Int) (w : World) : Calls Try.prog 68 #[.agg #[.int .i64 f, .int .i64 t]] w (Bl (okB f t) w) := by
  have fin : Below w.heap.size w (w.alloc (.cells #[.int .i64 f, .int .i64 t] 31)) := (Below.refl _ _).alloc (Nat.le_refl _) _
  by_cases h0 : 0 ≤ f ∧ f ≤ 730499
  · have e0 := Lib.hid (show decide (0 ≤ f ∧ f ≤ 730499) = true from decide_eq_true h0)
    by_cases h1 : 0 ≤ t ∧ t ≤ 730499
    · have e1 := Lib.hid (show decide (0 ≤ t ∧ t ≤ 730499) = true from decide_eq_true h1)
      by_cases h2 : f ≤ t
      · have r := Lib.hid (okB_t (f := f) (t := t) ⟨h0.1, h2, h1.2⟩)
        go_enter Try.func68, Try.ntmps68
        go_wp2_with fail
        refine (impl_isDay f true e0.out _).mono ?_
        rintro e w' ⟨rfl, rfl⟩
        go_wp2_with fail
        refine (impl_isDay t true e1.out _).mono ?_
        rintro e w' ⟨rfl, rfl⟩
        go_wp2_with fail
        go_ret
        exact ⟨by rw [r.out]; rfl, fin⟩
      · have r := Lib.hid (okB_f (f := f) (t := t) (fun h => h2 h.2.1))
        have h2' : decide (f ≤ t) = false := by simpa using h2
        go_enter Try.func68, Try.ntmps68
        go_wp2_with fail
        refine (impl_isDay f true e0.out _).mono ?_
        rintro e w' ⟨rfl, rfl⟩
        go_wp2_with fail
        refine (impl_isDay t true e1.out _).mono ?_
        rintro e w' ⟨rfl, rfl⟩
        go_wp2_with fail
        go_ret
        exact ⟨by rw [r.out]; rfl, fin⟩
    · have e1 := Lib.hid (show decide (0 ≤ t ∧ t ≤ 730499) = false from decide_eq_false h1)
      have r := Lib.hid (okB_f (f := f) (t := t) (fun h => h1 ⟨Int.le_trans h.1 h.2.1, h.2.2⟩))
      clear h1
      go_enter Try.func68, Try.ntmps68
      go_wp2_with fail
      refine (impl_isDay f true e0.out _).mono ?_
      rintro e w' ⟨rfl, rfl⟩
      go_wp2_with fail
      refine (impl_isDay t false e1.out _).mono ?_
      rintro e w' ⟨rfl, rfl⟩
      go_wp2_with fail
      go_ret
      exact ⟨by rw [r.out]; rfl, fin⟩
  · have e0 := Lib.hid (show decide (0 ≤ f ∧ f ≤ 730499) = false from decide_eq_false h0)
    have r := Lib.hid (okB_f (f := f) (t := t) (fun h => h0 ⟨h.1, Int.le_trans h.2.1 h.2.2⟩))
    clear h0
    go_enter Try.func68, Try.ntmps68
    go_wp2_with fail
    refine (impl_isDay f false e0.out _).mono ?_
    rintro e w' ⟨rfl, rfl⟩
    go_wp2_with fail
    go_ret
    exact ⟨by rw [r.out]; rfl, fin⟩

theorem impl_valid (f t : Int) (b : Bool) (w : World) (h : okB f t = b) : Calls Try.prog 68 #[.agg #[.int .i64 f, .int .i64 t]] w (Bl b w) := by
  subst h; exact impl_isValid f t w

end Go.Proofs.Ytfhcakpmlppbkaa.Sets
