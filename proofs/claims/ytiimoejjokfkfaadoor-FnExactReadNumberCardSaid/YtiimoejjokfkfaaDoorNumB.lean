/- Contracts of spec's ways to write a form, CountForms, and what a letter counts. -/
import Derived.Test.YtiimoejjokfkfaaDoorNumA
import Derived.Test.YtiimoejjokfkfaaDoorPlain
namespace Go.Proofs.YtiimoejjokfkfaaDoor.Num
open Go.RowKit

theorem ways_step (l : List UInt8) (k : Nat) (h : k < l.length) : ways (l.drop k) = (if l[k] = 118 ∨ (l[k] = 105 ∧ k + 1 = l.length) then 2 else 1) * ways (l.drop (k + 1)) := by
  rw [List.drop_eq_getElem_cons h]
  by_cases e : k + 1 = l.length
  · have e1 : l.drop (k + 1) = [] := List.drop_eq_nil_of_le (by omega)
    rw [e1]
    unfold ways
    simp [e]
  · rw [List.drop_eq_getElem_cons (show k + 1 < l.length by omega)]
    show ways (l[k] :: l[k + 1] :: l.drop (k + 1 + 1)) = _
    rw [ways]
    simp [e]

theorem ways_pos : ∀ (l : List UInt8), 1 ≤ ways l
  | [] => by simp [ways]
  | [a] => by unfold ways; split <;> omega
  | a :: b :: r => by
    have h := ways_pos (b :: r)
    unfold ways
    split <;> omega

theorem ways_le : ∀ (l : List UInt8), ways l ≤ 2 ^ l.length
  | [] => by simp [ways]
  | [a] => by unfold ways; split <;> simp
  | a :: b :: r => by
    have h := ways_le (b :: r)
    have p := ways_pos (b :: r)
    have e : (2 : Int) ^ (a :: b :: r).length = 2 * 2 ^ (b :: r).length := by
      rw [List.length_cons, Int.pow_succ, Int.mul_comm]
    rw [e]
    unfold ways
    split <;> omega

theorem ways_20 (l : List UInt8) (h : l.length ≤ 20) : ways l ≤ 1048576 := by
  have h1 := ways_le l
  have h2 : (2 : Int) ^ l.length ≤ 2 ^ 20 := by
    have := Nat.pow_le_pow_right (show 0 < 2 by omega) h
    exact_mod_cast this
  omega

theorem ways_mul {a b : Int} (h0 : 1 ≤ a) (h1 : 1 ≤ b) : a ≤ a * b := by
  have := Int.mul_le_mul_of_nonneg_left h1 (show 0 ≤ a by omega)
  omega

/-- What holds after k letters. -/
theorem ways_next {l : List UInt8} {k : Nat} {n T : Int} (hk : k < l.length) (h : n * ways (l.drop k) = T) (c : Int)
    (hc : (if l[k] = 118 ∨ (l[k] = 105 ∧ k + 1 = l.length) then 2 else 1) = c) : (c * n) * ways (l.drop (k + 1)) = T := by
  rw [ways_step l k hk, hc] at h
  rw [← h, Int.mul_comm c n, Int.mul_assoc]

theorem conv_ret {a b : Int} (h : a = b) : Ending.returned (.int .i64 a) = .returned (.int .i64 b) := by rw [h]

set_option maxHeartbeats 1000000 in
theorem spec_ways (l : List UInt8) (hl : l.length ≤ 20) (w : World) : Calls Tryd.prog 37 #[.string (str l)] w fun e w' => e = .returned (.int .i64 (ways l)) ∧ w = w' := by
  have sz := str_size l
  have T20 := ways_20 l hl
  obtain ⟨T, hT⟩ : ∃ T, ways l = T := ⟨_, rfl⟩
  have HT := Lib.hid hT
  rw [hT] at T20
  rw [hT]
  clear hT
  go_enter Tryd.func37, Tryd.ntmps37
  go_wp2_with fail
  go_loopg [3, 4] (l.length) (fun m n i wr => ∃ (k : Nat) (N : Int), k ≤ l.length ∧ m = l.length - k ∧ n = .int .i64 N ∧ i = .int .i64 k ∧ Hid (N * ways (l.drop k) = T) ∧ 1 ≤ N ∧ wr = w)
  case atStart => exact ⟨0, 1, by omega, by omega, rfl, rfl, Lib.hid (by rw [List.drop_zero, Int.one_mul]; exact HT.out), by omega, rfl⟩
  case round =>
    obtain ⟨k, N, hk, hm, rfl, rfl, hW, hN, rfl⟩ := hrel
    subst hm
    have hN2 : N ≤ 1048576 := by
      have := ways_mul hN (ways_pos (l.drop k))
      rw [hW.out] at this
      omega
    by_cases hlt : k < l.length
    · have hgo : ((k : Int) < (l.length : Int)) := by omega
      have hgs : (str l)[k]'(by rw [str_size]; exact hlt) = l[k] := get_str l k _
      have HX := Lib.hid (ways_next hlt hW.out)
      by_cases hv : l[k] = 118
      · have HC := Lib.hid (HX.out 2 (if_pos (.inl hv)))
        rw [hv] at hgs
        clear HX hW
        go_wp2_with fail
        go_roundg (l.length - (k + 1))
        case measure => omega
        case rel => exact ⟨k + 1, 2 * N, by omega, by omega, rfl, by go_num, HC, by omega, rfl⟩
      · by_cases hi : l[k] = 105
        · rw [hi] at hgs
          by_cases hz : k + 1 = l.length
          · have hz1 : ((k : Int) == (l.length : Int) - 1) = true := by simp; omega
            have HC := Lib.hid (HX.out 2 (if_pos (.inr ⟨hi, hz⟩)))
            clear HX hW
            go_wp2_with fail
            go_roundg (l.length - (k + 1))
            case measure => omega
            case rel => exact ⟨k + 1, 2 * N, by omega, by omega, rfl, by go_num, HC, by omega, rfl⟩
          · have hz1 : ((k : Int) == (l.length : Int) - 1) = false := by simp; omega
            have HC := Lib.hid (HX.out 1 (if_neg (by rintro (h | ⟨_, h⟩); exact hv h; exact hz h)))
            clear HX hW
            go_wp2_with fail
            go_roundg (l.length - (k + 1))
            case measure => omega
            case rel => exact ⟨k + 1, N, by omega, by omega, rfl, by go_num, Lib.hid (by rw [← HC.out, Int.one_mul]), by omega, rfl⟩
        · have HC := Lib.hid (HX.out 1 (if_neg (by rintro (h | ⟨h, _⟩); exact hv h; exact hi h)))
          have hv1 : ((l[k].toNat : Int) == 118) = false := by
            simp only [beq_eq_false_iff_ne, ne_eq]
            intro h
            exact hv (UInt8.toNat_inj.1 (by simpa using (by omega : l[k].toNat = 118)))
          have hi1 : ((l[k].toNat : Int) == 105) = false := by
            simp only [beq_eq_false_iff_ne, ne_eq]
            intro h
            exact hi (UInt8.toNat_inj.1 (by simpa using (by omega : l[k].toNat = 105)))
          clear HX hW hv hi
          generalize l[k] = c at *
          go_wp2_with fail
          go_roundg (l.length - (k + 1))
          case measure => omega
          case rel => exact ⟨k + 1, N, by omega, by omega, rfl, by go_num, Lib.hid (by rw [← HC.out, Int.one_mul]), by omega, rfl⟩
    · have hgo : ¬ ((k : Int) < (l.length : Int)) := by omega
      have HE := Lib.hid (show N = T by rw [← hW.out, List.drop_eq_nil_of_le (by omega)]; simp [ways])
      clear hW
      go_wp2_with fail
      go_ret
      exact ⟨conv_ret HE.out, rfl⟩

theorem cfN_in {m : Nat} (h : isN m) : cfN m = ways (formN m false) + (if formN m true = formN m false then 0 else ways (formN m true)) := by
  unfold cfN form
  rw [if_pos h, Int.toNat_natCast]

theorem spec_CountForms (n : Int) (w : World) : Calls Tryd.prog 12 #[.int .i64 n] w (Two (cfN n) (cfE n) w) := by
  by_cases h : isN n
  · obtain ⟨m, rfl⟩ := Int.eq_ofNat_of_zero_le (show 0 ≤ n by have := h.1; omega)
    have hm : m ≤ 3999 := by have := h.2; omega
    have I := Lib.hid (spec_isN m true (decide_eq_true h))
    have F1 := Lib.hid (spec_form m hm false)
    have F2 := Lib.hid (spec_form m hm true)
    have W1 := Lib.hid (spec_ways (formN m false) (form_len m hm false))
    have W2 := Lib.hid (spec_ways (formN m true) (form_len m hm true))
    have b1 := ways_20 (formN m false) (form_len m hm false)
    have b2 := ways_20 (formN m true) (form_len m hm true)
    have p1 := ways_pos (formN m false)
    have p2 := ways_pos (formN m true)
    have hE : cfE m = 0 := if_pos h
    have hN := cfN_in h
    rw [hE]
    obtain ⟨l1, e1⟩ : ∃ l, formN m false = l := ⟨_, rfl⟩
    obtain ⟨l2, e2⟩ : ∃ l, formN m true = l := ⟨_, rfl⟩
    rw [e1] at F1 W1 b1 p1 hN
    rw [e2] at F2 W2 b2 p2 hN
    clear e1 e2 hE
    generalize cfN m = T at *
    generalize ways l1 = x1 at *
    generalize ways l2 = x2 at *
    have HN := Lib.hid hN
    clear hN h hm
    have t1 := str_toList l1
    have t2 := str_toList l2
    go_enter Tryd.func12, Tryd.ntmps12
    go_wp2_with fail
    refine (I.out _).mono ?_
    rintro e w1 ⟨rfl, rfl⟩
    go_wp2_with fail
    refine (F1.out _).mono ?_
    rintro e w2 ⟨rfl, k2⟩
    go_wp2_with fail
    refine (W1.out _).mono ?_
    rintro e w3 ⟨rfl, rfl⟩
    go_wp2_with fail
    refine (F2.out _).mono ?_
    rintro e w4 ⟨rfl, k4⟩
    go_wp2_with fail
    refine (F1.out _).mono ?_
    rintro e w5 ⟨rfl, k5⟩
    have bel := below_step (below_step k2 k4) k5
    clear k2 k4 k5
    by_cases hl : l2 = l1
    · have hq : (l2 == l1) = true := by rw [hl]; simp
      go_wp2_with fail
      go_ret2
      exact ⟨congrArg (fun a => Ending.returned (.tuple #[.int .i64 a, .int .i64 0])) (by rw [HN.out, if_pos hl, Int.add_zero]), bel⟩
    · have hq : (l2 == l1) = false := by simpa using hl
      go_wp2_with fail
      refine (F2.out _).mono ?_
      rintro e w6 ⟨rfl, k6⟩
      go_wp2_with fail
      refine (W2.out _).mono ?_
      rintro e w7 ⟨rfl, rfl⟩
      go_wp2_with fail
      go_ret2
      exact ⟨congrArg (fun a => Ending.returned (.tuple #[.int .i64 a, .int .i64 0])) (by rw [HN.out, if_neg hl]), below_step bel k6⟩
  · have I := Lib.hid (spec_isN n false (decide_eq_false h))
    rw [show cfN n = 0 from if_neg h, show cfE n = 2 from if_neg h]
    clear h
    go_enter Tryd.func12, Tryd.ntmps12
    go_wp2_with fail
    refine (I.out _).mono ?_
    rintro e w1 ⟨rfl, rfl⟩
    go_wp2_with fail
    go_ret2
    exact ⟨rfl, Below.refl _ _⟩

theorem spec_value (c : UInt8) (w : World) : Calls Tryd.prog 43 #[.int .u8 c.toNat] w fun e w' => e = .returned (.int .i64 (val c)) ∧ w = w' := by
  have key : ∀ d : UInt8, c ≠ d → ((c.toNat : Int) == (d.toNat : Int)) = false := by
    intro d hd
    simp only [beq_eq_false_iff_ne, ne_eq]
    intro h
    exact hd (UInt8.toNat_inj.1 (by omega))
  by_cases h1 : c = 105
  · subst h1
    go_enter Tryd.func43, Tryd.ntmps43
    go_wp2_with fail
    go_ret
    exact ⟨rfl, rfl⟩
  by_cases h2 : c = 118
  · subst h2
    go_enter Tryd.func43, Tryd.ntmps43
    go_wp2_with fail
    go_ret
    exact ⟨rfl, rfl⟩
  by_cases h3 : c = 120
  · subst h3
    go_enter Tryd.func43, Tryd.ntmps43
    go_wp2_with fail
    go_ret
    exact ⟨rfl, rfl⟩
  by_cases h4 : c = 108
  · subst h4
    go_enter Tryd.func43, Tryd.ntmps43
    go_wp2_with fail
    go_ret
    exact ⟨rfl, rfl⟩
  by_cases h5 : c = 99
  · subst h5
    go_enter Tryd.func43, Tryd.ntmps43
    go_wp2_with fail
    go_ret
    exact ⟨rfl, rfl⟩
  by_cases h6 : c = 100
  · subst h6
    go_enter Tryd.func43, Tryd.ntmps43
    go_wp2_with fail
    go_ret
    exact ⟨rfl, rfl⟩
  by_cases h7 : c = 109
  · subst h7
    go_enter Tryd.func43, Tryd.ntmps43
    go_wp2_with fail
    go_ret
    exact ⟨rfl, rfl⟩
  have k1 : ((c.toNat : Int) == 105) = false := key 105 h1
  have k2 : ((c.toNat : Int) == 118) = false := key 118 h2
  have k3 : ((c.toNat : Int) == 120) = false := key 120 h3
  have k4 : ((c.toNat : Int) == 108) = false := key 108 h4
  have k5 : ((c.toNat : Int) == 99) = false := key 99 h5
  have k6 : ((c.toNat : Int) == 100) = false := key 100 h6
  have k7 : ((c.toNat : Int) == 109) = false := key 109 h7
  rw [show val c = 0 by simp [val, h1, h2, h3, h4, h5, h6, h7]]
  clear h1 h2 h3 h4 h5 h6 h7 key
  go_enter Tryd.func43, Tryd.ntmps43
  go_wp2_with fail
  go_ret
  exact ⟨rfl, rfl⟩

end Go.Proofs.YtiimoejjokfkfaaDoor.Num
