/- How many days a set has, whether it has a day, its days in order: impl's functions and spec's. -/
import Derived.Test.YtigjpalbaapkkaaSetI
namespace Go.Proofs.Ytigjpalbaapkkaa.Sets
open Go.RowKit

theorem impl_IsSetB (A : Option Addr) (n c : Nat) (xs : L) (b : Bool) (hb : setB xs = b) (hn : n ≤ maxLen) (w : World) (h : Rd w A n xs) :
    Calls Try.prog 60 #[.slice A n c] w (Bl b w) := by
  subst hb; exact impl_IsSet A n c xs hn w h
theorem spec_IsSetB (A : Option Addr) (n c : Nat) (xs : L) (b : Bool) (hb : setB xs = b) (hn : n ≤ maxLen) (w : World) (h : Rd w A n xs) :
    Calls Try.prog 94 #[.slice A n c] w (Bl b w) := by
  subst hb; exact spec_IsSet A n c xs hn w h

/-- Numbers that are near to days. -/
def Sm (xs : L) : Prop := (∀ s ∈ xs, -1000 ≤ s.1 ∧ s.1 ≤ 1000000 ∧ -1000 ≤ s.2 ∧ s.2 ≤ 1000000) ∧ xs.length ≤ 2000
theorem Sm.at_ {xs : L} (h : Sm xs) {k : Nat} (hk : k < xs.length) : -1000 ≤ xs[k].1 ∧ xs[k].1 ≤ 1000000 ∧ -1000 ≤ xs[k].2 ∧ xs[k].2 ≤ 1000000 := h.1 _ (List.getElem_mem hk)
theorem NF.sm {lo : Int} {xs : L} (h : NF lo xs) (hl : xs.length ≤ 2000) : Sm xs :=
  ⟨fun s hs => by have := h.ok_of s hs; unfold ok at this; omega, hl⟩
theorem cnt_bd {xs : L} (h : ∀ s ∈ xs, -1000 ≤ s.1 ∧ s.1 ≤ 1000000 ∧ -1000 ≤ s.2 ∧ s.2 ≤ 1000000) : -1001001 * (xs.length : Int) ≤ cnt xs ∧ cnt xs ≤ 1001001 * (xs.length : Int) := by
  induction xs with
  | nil => simp [cnt]
  | cons s r ih =>
    have h1 := h s (List.mem_cons_self ..)
    have h2 := ih fun t ht => h t (List.mem_cons_of_mem _ ht)
    simp only [cnt, List.length_cons]
    omega
theorem Sm.cnt_drop {xs : L} (h : Sm xs) (k : Nat) : -2002002000 ≤ cnt (xs.drop k) ∧ cnt (xs.drop k) ≤ 2002002000 := by
  have := cnt_bd (xs := xs.drop k) fun s hs => h.1 s (List.mem_of_mem_drop hs)
  have h2 := h.2
  rw [List.length_drop] at this
  omega
theorem cnt_drop_succ {xs : L} {k : Nat} (hk : k < xs.length) : cnt (xs.drop k) = (xs[k].2 - xs[k].1 + 1) + cnt (xs.drop (k + 1)) := by
  rw [List.drop_eq_getElem_cons hk]
  rfl
theorem cnt_drop_end {xs : L} {k : Nat} (hk : xs.length ≤ k) : cnt (xs.drop k) = 0 := by
  rw [List.drop_eq_nil_of_le hk]
  rfl

def Num (x : Int) (w : World) (e : Ending) (w' : World) : Prop := e = .returned (.int .i64 x) ∧ Below w.heap.size w w'
def Two (x y : Int) (w : World) (e : Ending) (w' : World) : Prop := e = .returned (.tuple #[.int .i64 x, .int .i64 y]) ∧ Below w.heap.size w w'
def TwoB (b : Bool) (y : Int) (w : World) (e : Ending) (w' : World) : Prop := e = .returned (.tuple #[.bool b, .int .i64 y]) ∧ Below w.heap.size w w'

theorem impl_length (f t : Int) (h : -1000 ≤ f ∧ f ≤ 1000000 ∧ -1000 ≤ t ∧ t ≤ 1000000) (w : World) :
    Calls Try.prog 89 #[.agg #[.int .i64 f, .int .i64 t]] w (Num (t - f + 1) w) := by
  obtain ⟨h1, h2, h3, h4⟩ := h
  go_enter Try.func89, Try.ntmps89
  go_wp2
  go_ret
  exact ⟨rfl, (Below.refl _ _).alloc (Nat.le_refl _) _⟩

theorem i64_num {a b : Int} (h : a = b) : Value.int .i64 a = .int .i64 b := by rw [h]

set_option maxHeartbeats 1000000 in
theorem spec_count (A : Option Addr) (n c : Nat) (xs : L) (w : World) (h : Rd w A n xs) (hs : Sm xs) :
    Calls Try.prog 97 #[.slice A n c] w (Num (cnt xs) w) := by
  have hlen := h.1
  have hn : n ≤ 2000 := by have := hs.2; omega
  go_enter Try.func97, Try.ntmps97
  go_wp2_with fail
  go_loopg [3, 4] n (fun m t i wr => ∃ (k : Nat) (a : Int), k ≤ n ∧ m = n - k ∧ i = .int .i64 k ∧ t = .int .i64 a ∧ -4004004000 ≤ a ∧ a ≤ 4004004000 ∧ Hid (a + cnt (xs.drop k) = cnt xs) ∧ ∃ q, wr = w.drewN q)
  case atStart => exact ⟨0, 0, by omega, by omega, rfl, rfl, by omega, by omega, Lib.hid (by simp), 0, rfl⟩
  case round =>
    obtain ⟨k, a, hk, hm, rfl, rfl, a0, a1, HE, q, rfl⟩ := hrel
    subst hm
    by_cases hlt : k < n
    · obtain ⟨g, off, hl, rfl, hg, c0, c1⟩ := h.at_ hlt
      obtain ⟨s0, s1, s2, s3⟩ := hs.at_ hl
      have d0 : (w.drewN q).cell? ⟨g, off + k * 2, none⟩ = some (.int .i64 xs[k].1) := c0
      have d1 : (w.drewN q).cell? ⟨g, off + k * 2 + 1, none⟩ = some (.int .i64 xs[k].2) := c1
      have HN := Lib.hid (show (a + xs[k].2 - xs[k].1 + 1) + cnt (xs.drop (k + 1)) = cnt xs by have := HE.out; rw [cnt_drop_succ hl] at this; omega)
      have nb := hs.cnt_drop (k + 1)
      have nb0 := hs.cnt_drop 0
      have z0 : -4004004000 ≤ a + xs[k].2 - xs[k].1 + 1 := by have := HN.out; simp only [List.drop_zero] at nb0; omega
      have z1 : a + xs[k].2 - xs[k].1 + 1 ≤ 4004004000 := by have := HN.out; simp only [List.drop_zero] at nb0; omega
      clear nb nb0
      go_wp2_with fail
      go_quiet (fail)
      go_wp2_with fail
      go_roundg (n - (k + 1))
      case measure => omega
      case rel => exact ⟨k + 1, _, by omega, by omega, by go_num, rfl, z0, z1, HN, _, rfl⟩
    · have e : k = n := by omega
      subst e
      have E : a = cnt xs := by have := HE.out; rw [cnt_drop_end (by omega)] at this; omega
      subst E
      go_wp2_with fail
      go_ret
      exact ⟨rfl, below_drewN (Below.refl _ _) _⟩

set_option maxHeartbeats 1000000 in
theorem impl_count (A : Option Addr) (n c : Nat) (xs : L) (w : World) (h : Rd w A n xs) (hs : Sm xs) :
    Calls Try.prog 100 #[.slice A n c] w (Num (cnt xs) w) := by
  have hlen := h.1
  have hn : n ≤ 2000 := by have := hs.2; omega
  go_enter Try.func100, Try.ntmps100
  go_wp2_with fail
  go_loopg [3, 8] n (fun m t i wr => ∃ (k : Nat) (a : Int), k ≤ n ∧ m = n - k ∧ i = .int .i64 k ∧ t = .int .i64 a ∧ -4004004000 ≤ a ∧ a ≤ 4004004000 ∧ Hid (a + cnt (xs.drop k) = cnt xs) ∧ Below w.heap.size w wr)
  case atStart => exact ⟨0, 0, by omega, by omega, rfl, rfl, by omega, by omega, Lib.hid (by simp), Below.refl _ _⟩
  case round =>
    obtain ⟨k, a, hk, hm, rfl, rfl, a0, a1, HE, hb⟩ := hrel
    subst hm
    by_cases hlt : k < n
    · obtain ⟨g, off, hl, rfl, hg, c0, c1⟩ := (h.below hb).at_ hlt
      obtain ⟨s0, s1, s2, s3⟩ := hs.at_ hl
      have HN := Lib.hid (show (a + (xs[k].2 - xs[k].1 + 1)) + cnt (xs.drop (k + 1)) = cnt xs by have := HE.out; rw [cnt_drop_succ hl] at this; omega)
      have nb := hs.cnt_drop (k + 1)
      have nb0 := hs.cnt_drop 0
      have z0 : -4004004000 ≤ a + (xs[k].2 - xs[k].1 + 1) := by have := HN.out; simp only [List.drop_zero] at nb0; omega
      have z1 : a + (xs[k].2 - xs[k].1 + 1) ≤ 4004004000 := by have := HN.out; simp only [List.drop_zero] at nb0; omega
      clear nb nb0
      go_wp2_with fail
      refine (impl_length xs[k].1 xs[k].2 ⟨s0, s1, s2, s3⟩ _).mono ?_
      rintro e w1 ⟨rfl, hb1⟩
      have hfin := below_on (hb.alloc hb.size _) hb1
      go_wp2_with fail
      go_roundg (n - (k + 1))
      case measure => omega
      case rel => exact ⟨k + 1, _, by omega, by omega, by go_num, rfl, z0, z1, HN, hfin⟩
    · have e : k = n := by omega
      subst e
      have E : a = cnt xs := by have := HE.out; rw [cnt_drop_end (by omega)] at this; omega
      subst E
      go_wp2_with fail
      go_ret
      exact ⟨rfl, hb⟩

def cntV (xs : L) : Int := if setB xs then cnt xs else 0
def cntE (xs : L) : Int := if setB xs then 0 else 1
theorem impl_CountDays (A : Option Addr) (n c : Nat) (xs : L) (hn : n ≤ maxLen) (w : World) (h : Rd w A n xs) :
    Calls Try.prog 55 #[.slice A n c] w (Two (cntV xs) (cntE xs) w) := by
  have HN := Lib.hid hn
  clear hn
  by_cases hs : setB xs = true
  · rw [cntV, cntE, if_pos hs, if_pos hs]
    have hS := (set_nf hs).sm (by have := set_len hs; omega)
    have H := Lib.hid hs
    clear hs
    go_enter Try.func55, Try.ntmps55
    go_wp2_with fail
    refine (impl_IsSetB A n c xs true H.out HN.out _ h).mono ?_
    rintro e w1 ⟨rfl, b1⟩
    go_wp2_with fail
    refine (impl_count A n c xs _ (h.below b1) hS).mono ?_
    rintro e w2 ⟨rfl, b2⟩
    go_wp2_with fail
    go_ret2
    exact ⟨rfl, below_on b1 b2⟩
  · have hs' : setB xs = false := by simpa using hs
    rw [cntV, cntE, if_neg hs, if_neg hs]
    have H := Lib.hid hs'
    clear hs hs'
    go_enter Try.func55, Try.ntmps55
    go_wp2_with fail
    refine (impl_IsSetB A n c xs false H.out HN.out _ h).mono ?_
    rintro e w1 ⟨rfl, b1⟩
    go_wp2_with fail
    go_ret2
    exact ⟨rfl, b1⟩
theorem spec_CountDays (A : Option Addr) (n c : Nat) (xs : L) (hn : n ≤ maxLen) (w : World) (h : Rd w A n xs) :
    Calls Try.prog 56 #[.slice A n c] w (Two (cntV xs) (cntE xs) w) := by
  have HN := Lib.hid hn
  clear hn
  by_cases hs : setB xs = true
  · rw [cntV, cntE, if_pos hs, if_pos hs]
    have hS := (set_nf hs).sm (by have := set_len hs; omega)
    have H := Lib.hid hs
    clear hs
    go_enter Try.func56, Try.ntmps56
    go_wp2_with fail
    refine (spec_IsSetB A n c xs true H.out HN.out _ h).mono ?_
    rintro e w1 ⟨rfl, b1⟩
    go_wp2_with fail
    refine (spec_count A n c xs _ (h.below b1) hS).mono ?_
    rintro e w2 ⟨rfl, b2⟩
    go_wp2_with fail
    go_ret2
    exact ⟨rfl, below_on b1 b2⟩
  · have hs' : setB xs = false := by simpa using hs
    rw [cntV, cntE, if_neg hs, if_neg hs]
    have H := Lib.hid hs'
    clear hs hs'
    go_enter Try.func56, Try.ntmps56
    go_wp2_with fail
    refine (spec_IsSetB A n c xs false H.out HN.out _ h).mono ?_
    rintro e w1 ⟨rfl, b1⟩
    go_wp2_with fail
    go_ret2
    exact ⟨rfl, b1⟩

end Go.Proofs.Ytigjpalbaapkkaa.Sets
