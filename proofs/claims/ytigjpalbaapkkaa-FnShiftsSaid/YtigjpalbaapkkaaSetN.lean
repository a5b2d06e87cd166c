/- The days of a set in order: impl's NthDay and spec's. -/
import Derived.Test.YtigjpalbaapkkaaSetC
import Derived.OpenShut
namespace Go.Proofs.Ytigjpalbaapkkaa.Sets
open Go.RowKit

def nthIn (xs : L) (k : Int) : Prop := 0 ≤ k ∧ k < cnt xs
instance (xs : L) (k : Int) : Decidable (nthIn xs k) := by unfold nthIn; exact inferInstance
def nthV (xs : L) (k : Int) : Int := if setB xs then if nthIn xs k then nth xs k else 0 else 0
def nthE (xs : L) (k : Int) : Int := if setB xs then if nthIn xs k then 0 else 2 else 1

theorem nth_drop {xs : L} {k : Nat} (hk : k < xs.length) (d : Int) : nth (xs.drop k) d = if d ≤ xs[k].2 - xs[k].1 then xs[k].1 + d else nth (xs.drop (k + 1)) (d - (xs[k].2 - xs[k].1 + 1)) := by
  rw [List.drop_eq_getElem_cons hk]
  rfl
theorem NF.drop {lo : Int} {xs : L} (h : NF lo xs) (k : Nat) : ∃ lo', NF lo' (xs.drop k) := by
  induction k generalizing lo xs with
  | zero => exact ⟨lo, by simpa using h⟩
  | succ k ih =>
    cases xs with
    | nil => exact ⟨0, by simp [NF]⟩
    | cons s r => exact ih h.2.2
theorem cnt_drop_nonneg {xs : L} (h : NF 0 xs) (k : Nat) : 0 ≤ cnt (xs.drop k) := by
  obtain ⟨lo, h⟩ := h.drop k
  exact cnt_nonneg h

set_option maxHeartbeats 1000000 in
theorem impl_NthDay_in (A : Option Addr) (n c : Nat) (xs : L) (d : Int) (hn : Hid (n ≤ maxLen)) (hs : Hid (setB xs = true)) (hin : Hid (nthIn xs d)) (w : World) (h : Rd w A n xs) :
    Calls Try.prog 49 #[.slice A n c, .int .i64 d] w (Two (nth xs d) 0 w) := by
  have hlen := h.1
  have hS := (set_nf hs.out).sm (by have := set_len hs.out; omega)
  have hl3 : n ≤ 300 := by have := set_len hs.out; omega
  have d0 : 0 ≤ d := hin.out.1
  have d1 : d ≤ 2002002000 := by have := hin.out.2; have := (hS.cnt_drop 0).2; simp only [List.drop_zero] at this; omega
  go_enter Try.func49, Try.ntmps49
  go_wp2_with fail
  refine (impl_IsSetB A n c xs true hs.out hn.out _ h).mono ?_
  rintro e w1 ⟨rfl, b1⟩
  go_wp2_with fail
  go_loopg [1, 15] n (fun m t i wr => ∃ (k : Nat) (a : Int), k ≤ n ∧ m = n - k ∧ i = .int .i64 k ∧ t = .int .i64 a ∧ 0 ≤ a ∧ a ≤ 2002002000 ∧ Hid (a < cnt (xs.drop k) ∧ nth (xs.drop k) a = nth xs d) ∧ Below w.heap.size w wr)
  case atStart => exact ⟨0, d, by omega, by omega, rfl, rfl, d0, d1, Lib.hid ⟨by simpa using hin.out.2, by simp⟩, b1⟩
  case round =>
    obtain ⟨k, a, hk, hm, rfl, rfl, a0, a1, HE, hb⟩ := hrel
    subst hm
    by_cases hlt : k < n
    · obtain ⟨g, off, hl, rfl, hg, c0, c1⟩ := (h.below hb).at_ hlt
      obtain ⟨s0, s1, s2, s3⟩ := hS.at_ hl
      by_cases hit : a < xs[k].2 - xs[k].1 + 1
      · have r := Lib.hid (show xs[k].1 + a = nth xs d by rw [← HE.out.2, nth_drop hl, if_pos (by omega)])
        go_wp2_with fail
        refine (impl_length xs[k].1 xs[k].2 ⟨s0, s1, s2, s3⟩ _).mono ?_
        rintro e w2 ⟨rfl, b2⟩
        have hfin := below_on (hb.alloc hb.size _) b2
        have q := (Blk.new wr 40 #[.int .i64 xs[k].1, .int .i64 xs[k].2]).below b2 (by simp)
        have q0 := q.cell 0
        simp only [List.getElem?_toArray, List.getElem?_cons_zero] at q0
        clear q
        go_wp2_with fail
        go_ret2
        exact ⟨by rw [← r.out]; rfl, hfin⟩
      · have HN := Lib.hid (show a - (xs[k].2 - xs[k].1 + 1) < cnt (xs.drop (k + 1)) ∧ nth (xs.drop (k + 1)) (a - (xs[k].2 - xs[k].1 + 1)) = nth xs d by
          obtain ⟨h1, h2⟩ := HE.out
          rw [nth_drop hl, if_neg (by omega)] at h2
          rw [cnt_drop_succ hl] at h1
          exact ⟨by omega, h2⟩)
        have ok1 := (set_nf hs.out).ok_of _ (List.getElem_mem hl)
        have e1 : xs[k].1 ≤ xs[k].2 := ok1.2.1
        clear ok1
        go_wp2_with fail
        refine (impl_length xs[k].1 xs[k].2 ⟨s0, s1, s2, s3⟩ _).mono ?_
        rintro e w2 ⟨rfl, b2⟩
        have hf2 := below_on (hb.alloc hb.size _) b2
        have q := (Blk.new wr 40 #[.int .i64 xs[k].1, .int .i64 xs[k].2]).below b2 (by simp)
        have q0 := q.cell 0
        have q1 := q.cell 1
        simp only [List.getElem?_toArray, List.getElem?_cons_zero, List.getElem?_cons_succ] at q0 q1
        clear q
        go_wp2_with fail
        refine (impl_length xs[k].1 xs[k].2 ⟨s0, s1, s2, s3⟩ _).mono ?_
        rintro e w3 ⟨rfl, b3⟩
        have hfin := below_on hf2 b3
        go_wp2_with fail
        go_roundg (n - (k + 1))
        case measure => omega
        case rel => exact ⟨k + 1, _, by omega, by omega, by go_num, rfl, by omega, by omega, HN, hfin⟩
    · exfalso
      have h1 := HE.out.1
      rw [cnt_drop_end (by omega)] at h1
      omega

set_option maxHeartbeats 1000000 in
theorem impl_NthDay_out (A : Option Addr) (n c : Nat) (xs : L) (d : Int) (hn : Hid (n ≤ maxLen)) (hs : Hid (setB xs = true)) (d0 : 0 ≤ d) (d9 : d ≤ 9223372036854775807) (hin : Hid (cnt xs ≤ d)) (w : World) (h : Rd w A n xs) :
    Calls Try.prog 49 #[.slice A n c, .int .i64 d] w (Two 0 2 w) := by
  have hlen := h.1
  have hS := (set_nf hs.out).sm (by have := set_len hs.out; omega)
  have hl3 : n ≤ 300 := by have := set_len hs.out; omega
  go_enter Try.func49, Try.ntmps49
  go_wp2_with fail
  refine (impl_IsSetB A n c xs true hs.out hn.out _ h).mono ?_
  rintro e w1 ⟨rfl, b1⟩
  go_wp2_with fail
  go_loopg [1, 15] n (fun m t i wr => ∃ (k : Nat) (a : Int), k ≤ n ∧ m = n - k ∧ i = .int .i64 k ∧ t = .int .i64 a ∧ 0 ≤ a ∧ a ≤ 9223372036854775807 ∧ Hid (cnt (xs.drop k) ≤ a) ∧ Below w.heap.size w wr)
  case atStart => exact ⟨0, d, by omega, by omega, rfl, rfl, d0, d9, Lib.hid (by simpa using hin.out), b1⟩
  case round =>
    obtain ⟨k, a, hk, hm, rfl, rfl, a0, a1, HE, hb⟩ := hrel
    subst hm
    by_cases hlt : k < n
    · obtain ⟨g, off, hl, rfl, hg, c0, c1⟩ := (h.below hb).at_ hlt
      obtain ⟨s0, s1, s2, s3⟩ := hS.at_ hl
      have hge := cnt_drop_nonneg (set_nf hs.out) (k + 1)
      have HN := Lib.hid (show cnt (xs.drop (k + 1)) ≤ a - (xs[k].2 - xs[k].1 + 1) by
          have h1 := HE.out
          rw [cnt_drop_succ hl] at h1
          omega)
      have hz : 0 ≤ a - (xs[k].2 - xs[k].1 + 1) := by have := HN.out; omega
      have hit : ¬ a < xs[k].2 - xs[k].1 + 1 := by omega
      have ok1 := (set_nf hs.out).ok_of _ (List.getElem_mem hl)
      have e1 : xs[k].1 ≤ xs[k].2 := ok1.2.1
      clear ok1 hge
      go_wp2_with fail
      refine (impl_length xs[k].1 xs[k].2 ⟨s0, s1, s2, s3⟩ _).mono ?_
      rintro e w2 ⟨rfl, b2⟩
      have hf2 := below_on (hb.alloc hb.size _) b2
      have q := (Blk.new wr 40 #[.int .i64 xs[k].1, .int .i64 xs[k].2]).below b2 (by simp)
      have q0 := q.cell 0
      have q1 := q.cell 1
      simp only [List.getElem?_toArray, List.getElem?_cons_zero, List.getElem?_cons_succ] at q0 q1
      clear q
      go_wp2_with fail
      refine (impl_length xs[k].1 xs[k].2 ⟨s0, s1, s2, s3⟩ _).mono ?_
      rintro e w3 ⟨rfl, b3⟩
      have hfin := below_on hf2 b3
      go_wp2_with fail
      go_roundg (n - (k + 1))
      case measure => omega
      case rel => exact ⟨k + 1, _, by omega, by omega, by go_num, rfl, by omega, by omega, HN, hfin⟩
    · go_wp2_with fail
      go_ret2
      exact ⟨rfl, hb⟩

theorem impl_NthDay (A : Option Addr) (n c : Nat) (xs : L) (d : Int) (hn : n ≤ maxLen) (hd : (Lit.int .i64 d).wf = true) (w : World) (h : Rd w A n xs) :
    Calls Try.prog 49 #[.slice A n c, .int .i64 d] w (Two (nthV xs d) (nthE xs d) w) := by
  have HN := Lib.hid hn
  have d9 := (bounds_i64 hd).2
  clear hn hd
  by_cases hs : setB xs = true
  · rw [nthV, nthE, if_pos hs, if_pos hs]
    have H := Lib.hid hs
    by_cases hin : nthIn xs d
    · rw [if_pos hin, if_pos hin]
      exact impl_NthDay_in A n c xs d HN H (Lib.hid hin) w h
    · rw [if_neg hin, if_neg hin]
      by_cases d0 : 0 ≤ d
      · exact impl_NthDay_out A n c xs d HN H d0 (by omega) (Lib.hid (by unfold nthIn at hin; omega)) w h
      · clear hs hin d9
        go_enter Try.func49, Try.ntmps49
        go_wp2_with fail
        refine (impl_IsSetB A n c xs true H.out HN.out _ h).mono ?_
        rintro e w1 ⟨rfl, b1⟩
        go_wp2_with fail
        go_ret2
        exact ⟨rfl, b1⟩
  · have hs' : setB xs = false := by simpa using hs
    rw [nthV, nthE, if_neg hs, if_neg hs]
    have H := Lib.hid hs'
    clear hs hs' d9
    go_enter Try.func49, Try.ntmps49
    go_wp2_with fail
    refine (impl_IsSetB A n c xs false H.out HN.out _ h).mono ?_
    rintro e w1 ⟨rfl, b1⟩
    go_wp2_with fail
    go_ret2
    exact ⟨rfl, b1⟩

set_option maxHeartbeats 1000000 in
theorem spec_NthDay_in (A : Option Addr) (n c : Nat) (xs : L) (d : Int) (hn : Hid (n ≤ maxLen)) (hs : Hid (setB xs = true)) (hin : Hid (nthIn xs d)) (w : World) (h : Rd w A n xs) :
    Calls Try.prog 50 #[.slice A n c, .int .i64 d] w (Two (nth xs d) 0 w) := by
  have hlen := h.1
  have hS := (set_nf hs.out).sm (by have := set_len hs.out; omega)
  have hl3 : n ≤ 300 := by have := set_len hs.out; omega
  have d0 : 0 ≤ d := hin.out.1
  have cb := hS.cnt_drop 0
  simp only [List.drop_zero] at cb
  obtain ⟨cb0, cb1⟩ := cb
  have d1 : d ≤ 2002002000 := by have := hin.out.2; omega
  have HI := Lib.hid (show decide ((0 : Int) ≤ d ∧ d ≤ cnt xs - 1) = true from decide_eq_true ⟨d0, by have := hin.out.2; omega⟩)
  go_enter Try.func50, Try.ntmps50
  go_wp2_with fail
  refine (spec_IsSetB A n c xs true hs.out hn.out _ h).mono ?_
  rintro e w1 ⟨rfl, b1⟩
  go_wp2_with fail
  refine (spec_count A n c xs _ (h.below b1) hS).mono ?_
  rintro e w2 ⟨rfl, b2⟩
  have b12 := below_on b1 b2
  go_wp2_with fail
  refine (spec_in d 0 (cnt xs - 1) true HI.out _).mono ?_
  rintro e w3 ⟨rfl, rfl⟩
  go_wp2_with fail
  go_loopg [1, 6] n (fun m t i wr => ∃ (k : Nat) (a : Int), k ≤ n ∧ m = n - k ∧ i = .int .i64 k ∧ t = .int .i64 a ∧ 0 ≤ a ∧ a ≤ 2002002000 ∧ Hid (a < cnt (xs.drop k) ∧ nth (xs.drop k) a = nth xs d) ∧ Below w.heap.size w wr)
  case atStart => exact ⟨0, d, by omega, by omega, rfl, rfl, d0, d1, Lib.hid ⟨by simpa using hin.out.2, by simp⟩, b12⟩
  case round =>
    obtain ⟨k, a, hk, hm, rfl, rfl, a0, a1, HE, hb⟩ := hrel
    subst hm
    by_cases hlt : k < n
    · obtain ⟨g, off, hl, rfl, hg, c0, c1⟩ := (h.below hb).at_ hlt
      obtain ⟨s0, s1, s2, s3⟩ := hS.at_ hl
      clear cb0 cb1 HI
      by_cases hit : xs[k].2 - xs[k].1 < a
      · have hd1 : decide (xs[k].2 - xs[k].1 < a) = true := by simpa using hit
        have HN := Lib.hid (show a - (xs[k].2 - xs[k].1 + 1) < cnt (xs.drop (k + 1)) ∧ nth (xs.drop (k + 1)) (a - (xs[k].2 - xs[k].1 + 1)) = nth xs d by
          obtain ⟨h1, h2⟩ := HE.out
          rw [nth_drop hl, if_neg (by omega)] at h2
          rw [cnt_drop_succ hl] at h1
          exact ⟨by omega, h2⟩)
        have ok1 := (set_nf hs.out).ok_of _ (List.getElem_mem hl)
        have e1 : xs[k].1 ≤ xs[k].2 := ok1.2.1
        clear ok1
        go_wp2_with fail
        go_quiet (fail)
        go_wp2_with fail
        go_quiet (fail)
        go_wp2_with fail
        go_roundg (n - (k + 1))
        case measure => omega
        case rel => exact ⟨k + 1, _, by omega, by omega, by go_num, rfl, by omega, by omega, HN, below_drewN hb _⟩
      · have hd1 : decide (xs[k].2 - xs[k].1 < a) = false := by simpa using hit
        have r := Lib.hid (show xs[k].1 + a = nth xs d by rw [← HE.out.2, nth_drop hl, if_pos (by omega)])
        go_wp2_with fail
        go_quiet (fail)
        go_wp2_with fail
        go_ret2
        exact ⟨by rw [← r.out]; rfl, below_drewN hb _⟩
    · exfalso
      have h1 := HE.out.1
      rw [cnt_drop_end (by omega)] at h1
      omega

theorem spec_NthDay (A : Option Addr) (n c : Nat) (xs : L) (d : Int) (hn : n ≤ maxLen) (w : World) (h : Rd w A n xs) :
    Calls Try.prog 50 #[.slice A n c, .int .i64 d] w (Two (nthV xs d) (nthE xs d) w) := by
  have HN := Lib.hid hn
  clear hn
  by_cases hs : setB xs = true
  · rw [nthV, nthE, if_pos hs, if_pos hs]
    have H := Lib.hid hs
    by_cases hin : nthIn xs d
    · rw [if_pos hin, if_pos hin]
      exact spec_NthDay_in A n c xs d HN H (Lib.hid hin) w h
    · rw [if_neg hin, if_neg hin]
      have hlen := h.1
      have hS := (set_nf hs).sm (by have := set_len hs; omega)
      have cb := hS.cnt_drop 0
      simp only [List.drop_zero] at cb
      obtain ⟨cb0, cb1⟩ := cb
      have HI := Lib.hid (show decide ((0 : Int) ≤ d ∧ d ≤ cnt xs - 1) = false from decide_eq_false fun hh => hin ⟨hh.1, by omega⟩)
      clear hs hin
      go_enter Try.func50, Try.ntmps50
      go_wp2_with fail
      refine (spec_IsSetB A n c xs true H.out HN.out _ h).mono ?_
      rintro e w1 ⟨rfl, b1⟩
      go_wp2_with fail
      refine (spec_count A n c xs _ (h.below b1) hS).mono ?_
      rintro e w2 ⟨rfl, b2⟩
      have b12 := below_on b1 b2
      go_wp2_with fail
      refine (spec_in d 0 (cnt xs - 1) false HI.out _).mono ?_
      rintro e w3 ⟨rfl, rfl⟩
      go_wp2_with fail
      go_ret2
      exact ⟨rfl, b12⟩
  · have hs' : setB xs = false := by simpa using hs
    rw [nthV, nthE, if_neg hs, if_neg hs]
    have H := Lib.hid hs'
    clear hs hs'
    go_enter Try.func50, Try.ntmps50
    go_wp2_with fail
    refine (spec_IsSetB A n c xs false H.out HN.out _ h).mono ?_
    rintro e w1 ⟨rfl, b1⟩
    go_wp2_with fail
    go_ret2
    exact ⟨rfl, b1⟩

end Go.Proofs.Ytigjpalbaapkkaa.Sets
