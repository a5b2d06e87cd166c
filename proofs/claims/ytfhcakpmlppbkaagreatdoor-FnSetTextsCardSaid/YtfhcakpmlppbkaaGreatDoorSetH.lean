/- Whether a set has a day: impl's HasDay and spec's. -/
import Derived.Test.YtfhcakpmlppbkaaGreatDoorSetC
import Derived.Test.YtfhcakpmlppbkaaGreatDoorHas
namespace Go.Proofs.YtfhcakpmlppbkaaGreatDoor.Sets
open Go.RowKit

theorem has_drop {xs : L} {k : Nat} (hk : k < xs.length) (d : Int) : has (xs.drop k) d ↔ (xs[k].1 ≤ d ∧ d ≤ xs[k].2) ∨ has (xs.drop (k + 1)) d := by
  rw [List.drop_eq_getElem_cons hk, has_cons]
theorem hasB_t {xs : L} {d : Int} (h : has xs d) : hasB xs d = true := decide_eq_true h
theorem hasB_f {xs : L} {d : Int} (h : ¬ has xs d) : hasB xs d = false := decide_eq_false h

theorem impl_in (f t d : Int) (b : Bool) (hb : decide (f ≤ d ∧ d ≤ t) = b) (g : Nat) (w : World) (hc : w.cell? ⟨g, 0, none⟩ = some (.int .i64 d)) :
    Calls Tryz.prog 87 #[.agg #[.int .i64 f, .int .i64 t], .pointer (some ⟨g, 0, none⟩)] w (Bl b w) := by
  have H := Lib.hid (impl_spanHas f t d b hb)
  have fin : Below w.heap.size w (w.alloc (.cells #[.int .i64 f, .int .i64 t] 36)) := (Below.refl _ _).alloc (Nat.le_refl _) _
  have d0 : (w.alloc (.cells #[.int .i64 f, .int .i64 t] 36)).cell? ⟨g, 0, none⟩ = some (.int .i64 d) := cell_keep fin hc
  clear hb hc
  go_enter Tryz.func87, Tryz.ntmps87
  go_wp2_with fail
  refine (H.out _).mono ?_
  rintro e w1 ⟨rfl, hb⟩
  have hfin := below_on fin hb
  go_wp2_with fail
  go_ret
  exact ⟨rfl, hfin⟩

/-- What a call leaves that finds the first span with a day, or none. -/
def Found (b : Bool) (w : World) (e : Ending) (w' : World) : Prop := ∃ i : Int, e = .returned (.int .i64 i) ∧ decide (0 ≤ i) = b ∧ Below w.heap.size w w'

set_option maxHeartbeats 1000000 in
theorem impl_index (A : Option Addr) (n c : Nat) (xs : L) (d : Int) (hn : n ≤ maxLen) (g0 : Nat) (w : World) (h : Rd w A n xs) (hc : w.cell? ⟨g0, 0, none⟩ = some (.int .i64 d)) :
    Calls Tryz.prog 109 #[.slice A n c, .func (.func 87) #[] #[.pointer (some ⟨g0, 0, none⟩)]] w (Found (hasB xs d) w) := by
  have hlen := h.1
  unfold maxLen at hn
  have HC := Lib.hid hc
  clear hc
  go_enter Tryz.func109, Tryz.ntmps109
  go_wp2_with fail
  go_loopg [8] n (fun m i wr => ∃ (k : Nat), k ≤ n ∧ m = n - k ∧ i = .int .i64 k ∧ Hid (has xs d ↔ has (xs.drop k) d) ∧ Below w.heap.size w wr)
  case atStart => exact ⟨0, by omega, by omega, rfl, Lib.hid Iff.rfl, Below.refl _ _⟩
  case round =>
    obtain ⟨k, hk, hm, rfl, HE, hb⟩ := hrel
    subst hm
    by_cases hlt : k < n
    · obtain ⟨g, off, hl, rfl, hg, c0, c1⟩ := (h.below hb).at_ hlt
      by_cases hin : xs[k].1 ≤ d ∧ d ≤ xs[k].2
      · have r := Lib.hid (hasB_t (HE.out.2 ((has_drop hl d).2 (.inl hin))))
        have t := Lib.hid (show decide (xs[k].1 ≤ d ∧ d ≤ xs[k].2) = true from decide_eq_true hin)
        clear hin
        go_wp2_with fail
        refine (impl_in xs[k].1 xs[k].2 d true t.out g0 _ (cell_keep hb HC.out)).mono ?_
        rintro e w1 ⟨rfl, hb1⟩
        go_wp2_with fail
        go_ret
        exact ⟨_, rfl, by rw [r.out]; simp, below_on hb hb1⟩
      · have HN := Lib.hid (show has xs d ↔ has (xs.drop (k + 1)) d by rw [HE.out, has_drop hl]; simp [hin])
        have t := Lib.hid (show decide (xs[k].1 ≤ d ∧ d ≤ xs[k].2) = false from decide_eq_false hin)
        clear hin
        go_wp2_with fail
        refine (impl_in xs[k].1 xs[k].2 d false t.out g0 _ (cell_keep hb HC.out)).mono ?_
        rintro e w1 ⟨rfl, hb1⟩
        have hfin := below_on hb hb1
        go_wp2_with fail
        go_roundg (n - (k + 1))
        case measure => omega
        case rel => exact ⟨k + 1, by omega, by omega, by go_num, HN, hfin⟩
    · have r := Lib.hid (hasB_f (xs := xs) (d := d) (by rw [HE.out, List.drop_eq_nil_of_le (by omega)]; exact has_nil d))
      go_wp2_with fail
      go_ret
      exact ⟨_, rfl, by rw [r.out]; simp, hb⟩

theorem impl_contains (A : Option Addr) (n c : Nat) (xs : L) (d : Int) (hn : n ≤ maxLen) (g0 : Nat) (w : World) (h : Rd w A n xs) (hc : w.cell? ⟨g0, 0, none⟩ = some (.int .i64 d)) :
    Calls Tryz.prog 86 #[.slice A n c, .func (.func 87) #[] #[.pointer (some ⟨g0, 0, none⟩)]] w (Bl (hasB xs d) w) := by
  have HC := Lib.hid hc
  have HN := Lib.hid hn
  clear hc hn
  go_enter Tryz.func86, Tryz.ntmps86
  go_wp2_with fail
  refine (impl_index A n c xs d HN.out g0 _ h HC.out).mono ?_
  rintro e w1 ⟨i, rfl, hi, hb⟩
  have HI := Lib.hid hi
  clear hi
  go_wp2_with fail
  go_ret
  exact ⟨ret_b HI.out, hb⟩

set_option maxHeartbeats 1000000 in
theorem impl_has (A : Option Addr) (n c : Nat) (xs : L) (d : Int) (hn : n ≤ maxLen) (w : World) (h : Rd w A n xs) :
    Calls Tryz.prog 55 #[.slice A n c, .int .i64 d] w (Bl (hasB xs d) w) := by
  have HN := Lib.hid hn
  clear hn
  go_enter Tryz.func55, Tryz.ntmps55
  go_wp2_with fail
  have fin : Below w.heap.size w (w.alloc (.cells #[.int .i64 d] 2)) := (Below.refl _ _).alloc (Nat.le_refl _) _
  have q := (Blk.new w 2 #[.int .i64 d]).cell 0
  refine (impl_contains A n c xs d HN.out _ _ (h.below fin) (by simp)).mono ?_
  rintro e w1 ⟨rfl, hb⟩
  have hfin := below_on fin hb
  clear q fin
  go_wp2_with fail
  go_ret
  exact ⟨rfl, hfin⟩

def hasV (xs : L) (d : Int) : Bool := setB xs && decide (0 ≤ d ∧ d ≤ 730499) && hasB xs d
def hasE (xs : L) (d : Int) : Int := if setB xs then if 0 ≤ d ∧ d ≤ 730499 then 0 else 2 else 1

theorem impl_HasDay (A : Option Addr) (n c : Nat) (xs : L) (d : Int) (hn : n ≤ maxLen) (w : World) (h : Rd w A n xs) :
    Calls Tryz.prog 16 #[.slice A n c, .int .i64 d] w (TwoB (hasV xs d) (hasE xs d) w) := by
  have HN := Lib.hid hn
  clear hn
  by_cases hs : setB xs = true
  · rw [hasV, hasE, if_pos hs, hs]
    have H := Lib.hid hs
    clear hs
    by_cases hd : 0 ≤ d ∧ d ≤ 730499
    · have E := Lib.hid (show decide (0 ≤ d ∧ d ≤ 730499) = true from decide_eq_true hd)
      rw [if_pos hd, decide_eq_true hd]
      clear hd
      go_enter Tryz.func16, Tryz.ntmps16
      go_wp2_with fail
      refine (impl_IsSetB A n c xs true H.out HN.out _ h).mono ?_
      rintro e w1 ⟨rfl, b1⟩
      go_wp2_with fail
      refine (impl_isDay d true E.out _).mono ?_
      rintro e w2 ⟨rfl, rfl⟩
      go_wp2_with fail
      refine (impl_has A n c xs d HN.out _ (h.below b1)).mono ?_
      rintro e w2 ⟨rfl, b2⟩
      go_wp2_with fail
      go_ret2
      exact ⟨by simp, below_on b1 b2⟩
    · have E := Lib.hid (show decide (0 ≤ d ∧ d ≤ 730499) = false from decide_eq_false hd)
      rw [if_neg hd, decide_eq_false hd]
      clear hd
      go_enter Tryz.func16, Tryz.ntmps16
      go_wp2_with fail
      refine (impl_IsSetB A n c xs true H.out HN.out _ h).mono ?_
      rintro e w1 ⟨rfl, b1⟩
      go_wp2_with fail
      refine (impl_isDay d false E.out _).mono ?_
      rintro e w2 ⟨rfl, rfl⟩
      go_wp2_with fail
      go_ret2
      exact ⟨by simp, b1⟩
  · have hs' : setB xs = false := by simpa using hs
    rw [hasV, hasE, if_neg hs, hs']
    have H := Lib.hid hs'
    clear hs hs'
    go_enter Tryz.func16, Tryz.ntmps16
    go_wp2_with fail
    refine (impl_IsSetB A n c xs false H.out HN.out _ h).mono ?_
    rintro e w1 ⟨rfl, b1⟩
    go_wp2_with fail
    go_ret2
    exact ⟨by simp, b1⟩

end Go.Proofs.YtfhcakpmlppbkaaGreatDoor.Sets
