/- Contracts of impl's functions over words: made by gen_wrdid.py. -/
import Derived.Test.YtdpbikephjnndaaDoorWrdIs
namespace Go.Proofs.YtdpbikephjnndaaDoor.Wrd
open Go.RowKit

/-- The search of the nearest word, told by a place that is 0 while none is found. -/
def NwI (l : List UInt8) (ps : List (List UInt8)) (m0 : Int) (w0 : World) (m : Nat) (b d i : Value) (wr : World) : Prop :=
  ∃ (k : Nat) (x y z : Int), i = .int .i64 k ∧ m = ps.length - k ∧ k ≤ ps.length ∧ b = .int .i64 z ∧ d = .int .i64 y ∧ Hid (nr l ps m0 k = (x, y)) ∧ Hid (0 ≤ x → z = x) ∧ Below w0.heap.size w0 wr
theorem nr_found (l : List UInt8) (ps : List (List UInt8)) {m : Int} (h : 0 ≤ m) : ∀ k, ((nr l ps m k).1 < 0 → (nr l ps m k).2 = m + 1) ∧ (0 ≤ (nr l ps m k).1 → (nr l ps m k).2 ≤ m)
  | 0 => by simp [nr]
  | k + 1 => by
    have ih := nr_found l ps h k
    have bd := nr_bd l ps h k
    unfold nr
    split
    · simp only
      omega
    · exact ih

theorem impl_SharedWords (A1 A2 : Option Addr) (c1 c2 : Nat) (a b : List (List UInt8)) (ta : Tame a) (tb : Tame b) (w : World) (r1 : RdS w A1 a) (r2 : RdS w A2 b) :
    Calls Tryd.prog 13 #[.slice A1 a.length c1, .slice A2 b.length c2] w (TwoW (shN a b) (shE a b) w) := by
  by_cases h1 : phOk a
  · have P1 := Lib.hid (impl_phrase A1 c1 a ta true (decide_eq_true h1))
    by_cases h2 : phOk b
    · have P2 := Lib.hid (impl_phrase A2 c2 b tb true (decide_eq_true h2))
      have F1 := Lib.hid (fun w r => impl_forms A1 c1 a h1 w r)
      have F2 := Lib.hid (fun w r => impl_forms A2 c2 b h2 w r)
      have la : (a.map norm).length = a.length := List.length_map _
      have lb : (b.map norm).length = b.length := List.length_map _
      have S := Lib.hid (fun B1 B2 w => impl_longest B1 B2 (a.map norm) (b.map norm) (by rw [la]; exact h1.2) (by rw [lb]; exact h2.2) w)
      rw [la, lb] at S
      have HN := Lib.hid (show ∀ M : Nat, Common (a.map norm) (b.map norm) M → (M : Int) = shN a b ∧ 0 = shE a b from fun M h => ⟨by unfold shN; rw [if_pos ⟨h1, h2⟩, com_eq h], (if_pos ⟨h1, h2⟩).symm⟩)
      clear h1 h2 ta tb la lb
      go_enter Tryd.func13, Tryd.ntmps13
      go_wp2_with fail
      refine (P1.out _ r1).mono ?_
      rintro e w1 ⟨rfl, rfl⟩
      go_wp2_with fail
      refine (P2.out _ r2).mono ?_
      rintro e w1 ⟨rfl, rfl⟩
      go_wp2_with fail
      refine (F1.out _ r1).mono ?_
      rintro e w1 ⟨B1, rfl, q1, b1⟩
      have r2' := r2.below b1
      go_wp2_with fail
      refine (F2.out _ r2').mono ?_
      rintro e w2 ⟨B2, rfl, q2, b2⟩
      have q1' := q1.below b2
      go_wp2_with fail
      refine (S.out B1 B2 _ q1' q2).mono ?_
      rintro e w3 ⟨M, rfl, hc, b3⟩
      have H := Lib.hid (HN.out M hc)
      have fin := (b1.trans (b2.mono b1.size)).trans (b3.mono (b1.trans (b2.mono b1.size)).size)
      clear hc HN
      go_wp2_with fail
      go_ret2
      exact ⟨ret_nn H.out.1 H.out.2, fin⟩
    · have P2 := Lib.hid (impl_phrase A2 c2 b tb false (decide_eq_false h2))
      have H := Lib.hid (show 0 = shN a b ∧ 1 = shE a b from ⟨(if_neg (fun h => h2 h.2)).symm, (if_neg (fun h => h2 h.2)).symm⟩)
      clear h1 h2 ta tb
      go_enter Tryd.func13, Tryd.ntmps13
      go_wp2_with fail
      refine (P1.out _ r1).mono ?_
      rintro e w1 ⟨rfl, rfl⟩
      go_wp2_with fail
      refine (P2.out _ r2).mono ?_
      rintro e w1 ⟨rfl, rfl⟩
      go_wp2_with fail
      go_ret2
      exact ⟨ret_nn H.out.1 H.out.2, Below.refl _ _⟩
  · have P1 := Lib.hid (impl_phrase A1 c1 a ta false (decide_eq_false h1))
    have H := Lib.hid (show 0 = shN a b ∧ 1 = shE a b from ⟨(if_neg (fun h => h1 h.1)).symm, (if_neg (fun h => h1 h.1)).symm⟩)
    clear h1 ta tb
    go_enter Tryd.func13, Tryd.ntmps13
    go_wp2_with fail
    refine (P1.out _ r1).mono ?_
    rintro e w1 ⟨rfl, rfl⟩
    go_wp2_with fail
    go_ret2
    exact ⟨ret_nn H.out.1 H.out.2, Below.refl _ _⟩

end Go.Proofs.YtdpbikephjnndaaDoor.Wrd
