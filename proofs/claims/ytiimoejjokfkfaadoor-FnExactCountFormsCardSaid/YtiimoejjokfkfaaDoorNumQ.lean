/- Contract of spec's ReadNumeral. -/
import Derived.Test.YtiimoejjokfkfaaDoorNumP
import Derived.Test.YtiimoejjokfkfaaDoorNumR
import Derived.Deep.RegionWith
namespace Go.Proofs.YtiimoejjokfkfaaDoor.Num
open Go.RowKit

theorem val_bd (c : UInt8) : 0 ≤ val c ∧ val c ≤ 1000 := by
  unfold val
  repeat' split
  all_goals omega
theorem sum_step (P : List UInt8) (k : Nat) (h : k + 1 < P.length) : sumL (P.drop k) = (if val P[k] < val P[k + 1] then - val P[k] else val P[k]) + sumL (P.drop (k + 1)) := by
  rw [List.drop_eq_getElem_cons (show k < P.length by omega), List.drop_eq_getElem_cons h, sumL]
theorem sum_last (P : List UInt8) (k : Nat) (h : k + 1 = P.length) : sumL (P.drop k) = val (P[k]'(by omega)) + sumL (P.drop (k + 1)) := by
  rw [List.drop_eq_getElem_cons (show k < P.length by omega), List.drop_eq_nil_of_le (show P.length ≤ k + 1 by omega)]
  simp [sumL]

theorem rd_cases {P : List UInt8} {S K : Int} {B : Bool} (hS : sumL P = S) (H0 : ¬ rdOk P → K = 0 ∧ B = false) (H1 : rdOk P → K = S ∧ B = true) :
    (¬ isN S ∧ K = 0 ∧ B = false) ∨ ∃ m : Nat, S = m ∧ isN m ∧ m ≤ 3999 ∧ ((P = formN m false ∧ K = S ∧ B = true) ∨ (¬ P = formN m false ∧ P = formN m true ∧ K = S ∧ B = true) ∨ (¬ P = formN m false ∧ ¬ P = formN m true ∧ K = 0 ∧ B = false)) := by
  subst hS
  by_cases h : isN (sumL P)
  · obtain ⟨m, hm⟩ := Int.eq_ofNat_of_zero_le (show 0 ≤ sumL P by have := h.1; omega)
    have hf : ∀ o, form (sumL P) o = formN m o := by intro o; unfold form; rw [hm, Int.toNat_natCast]
    have h' := h
    rw [hm] at h'
    refine .inr ⟨m, hm, h', by have := h'.2; omega, ?_⟩
    by_cases a : P = formN m false
    · exact .inl ⟨a, H1 ⟨h, .inl (by rw [hf]; exact a)⟩⟩
    by_cases b : P = formN m true
    · exact .inr (.inl ⟨a, b, H1 ⟨h, .inr (by rw [hf]; exact b)⟩⟩)
    · refine .inr (.inr ⟨a, b, H0 ?_⟩)
      rintro ⟨_, q | q⟩
      · rw [hf] at q; exact a q
      · rw [hf] at q; exact b q
  · exact .inl ⟨h, H0 (fun q => h q.1)⟩

set_option maxHeartbeats 2000000 in
theorem spec_ReadNumeral_at (l P : List UInt8) (S K : Int) (B : Bool) (hl : l.length ≤ 20) (pl : P.length = l.length) (HP : Hid (∀ w, Calls Tryd.prog 42 #[.string (str l)] w (Tx P w)))
    (HS : Hid (sumL P = S)) (H0 : Hid (¬ rdOk P → K = 0 ∧ B = false)) (H1 : Hid (rdOk P → K = S ∧ B = true)) (w : World) : Calls Tryd.prog 15 #[.string (str l)] w (NB (fun k b => k = K ∧ b = B) w) := by
  have sz := str_size l
  have sp := str_size P
  go_enter Tryd.func15, Tryd.ntmps15
  go_wp2_with fail
  refine (HP.out _).mono ?_
  rintro e w1 ⟨rfl, b1⟩
  go_wp2_with fail
  go_loopg [5, 6] (l.length) (fun m n i wr => ∃ (k : Nat) (N : Int), k ≤ l.length ∧ m = l.length - k ∧ n = .int .i64 N ∧ i = .int .i64 k ∧ Hid (N + sumL (P.drop k) = S) ∧ -(1000 * (k : Int)) ≤ N ∧ N ≤ 1000 * (k : Int) ∧ wr = w1)
  case atStart => exact ⟨0, 0, by omega, by omega, rfl, rfl, Lib.hid (by rw [List.drop_zero, Int.zero_add]; exact HS.out), by omega, by omega, rfl⟩
  case round =>
    obtain ⟨k, N, hk, hm, rfl, rfl, hW, hN, hN2, rfl⟩ := hrel
    subst hm
    by_cases hlt : k < l.length
    · have hgo : ((k : Int) < (l.length : Int)) := by omega
      have hgs : (str P)[k]'(by rw [str_size]; omega) = P[k]'(by omega) := get_str P k _
      have v1 := val_bd (P[k]'(by omega))
      have V1 := Lib.hid (spec_value (P[k]'(by omega)))
      by_cases hz : k + 1 = l.length
      · have hgo2 : ¬ ((k : Int) + 1 < (l.length : Int)) := by omega
        have HC := Lib.hid (show (N + val (P[k]'(by omega))) + sumL (P.drop (k + 1)) = S by rw [← hW.out, sum_last P k (by omega), Int.add_assoc])
        clear hW
        generalize val (P[k]'(by omega)) = x1 at *
        generalize P[k]'(by omega) = c1 at *
        go_wp2_with fail
        refine (V1.out _).mono ?_
        rintro e w2 ⟨rfl, rfl⟩
        go_wp2_with fail
        go_roundg (l.length - (k + 1))
        case measure => omega
        case rel => exact ⟨k + 1, N + x1, by omega, by omega, rfl, by go_num, HC, by omega, by omega, rfl⟩
      · have hgo2 : ((k : Int) + 1 < (l.length : Int)) := by omega
        have hgs2 : (str P)[k + 1]'(by rw [str_size]; omega) = P[k + 1]'(by omega) := get_str P (k + 1) _
        have v2 := val_bd (P[k + 1]'(by omega))
        have V2 := Lib.hid (spec_value (P[k + 1]'(by omega)))
        have HC := Lib.hid (sum_step P k (by omega))
        generalize val (P[k]'(by omega)) = x1 at *
        generalize val (P[k + 1]'(by omega)) = x2 at *
        generalize P[k]'(by omega) = c1 at *
        generalize P[k + 1]'(by omega) = c2 at *
        by_cases hv : x1 < x2
        · have HD := Lib.hid (show (N + -x1) + sumL (P.drop (k + 1)) = S by rw [← hW.out, HC.out, if_pos hv, Int.add_assoc])
          clear hW HC
          go_wp2_with fail
          refine (V1.out _).mono ?_
          rintro e w2 ⟨rfl, rfl⟩
          go_wp2_with fail
          refine (V2.out _).mono ?_
          rintro e w2 ⟨rfl, rfl⟩
          go_wp2_with fail
          go_roundg (l.length - (k + 1))
          case measure => omega
          case rel => exact ⟨k + 1, N + -x1, by omega, by omega, rfl, by go_num, HD, by omega, by omega, rfl⟩
        · have HD := Lib.hid (show (N + x1) + sumL (P.drop (k + 1)) = S by rw [← hW.out, HC.out, if_neg hv, Int.add_assoc])
          clear hW HC
          go_wp2_with fail
          refine (V1.out _).mono ?_
          rintro e w2 ⟨rfl, rfl⟩
          go_wp2_with fail
          refine (V2.out _).mono ?_
          rintro e w2 ⟨rfl, rfl⟩
          go_wp2_with fail
          go_roundg (l.length - (k + 1))
          case measure => omega
          case rel => exact ⟨k + 1, N + x1, by omega, by omega, rfl, by go_num, HD, by omega, by omega, rfl⟩
    · have hgo : ¬ ((k : Int) < (l.length : Int)) := by omega
      have eN : N = S := by rw [← hW.out, List.drop_eq_nil_of_le (by omega)]; simp [sumL]
      subst eN
      clear hW
      rcases rd_cases HS.out H0.out H1.out with ⟨hn, rfl, rfl⟩ | ⟨m, rfl, hm, hm2, hc⟩
      · have I := Lib.hid (spec_isN N false (decide_eq_false hn))
        clear hn
        go_wp2_with fail
        refine (I.out _).mono ?_
        rintro e w2 ⟨rfl, rfl⟩
        go_wp2_with fail
        go_ret2
        exact ⟨0, false, rfl, ⟨rfl, rfl⟩, b1⟩
      · have I := Lib.hid (spec_isN m true (decide_eq_true hm))
        have F1 := Lib.hid (spec_form m hm2 false)
        have F2 := Lib.hid (spec_form m hm2 true)
        generalize formN m false = f1 at *
        generalize formN m true = f2 at *
        have t0 := str_toList P
        have t1 := str_toList f1
        have t2 := str_toList f2
        clear hm hm2 H0 H1 HS
        rcases hc with ⟨hc, rfl, rfl⟩ | ⟨hc, hd, rfl, rfl⟩ | ⟨hc, hd, rfl, rfl⟩
        · have q1 : (P == f1) = true := by simpa using hc
          clear hc
          go_wp2_with fail
          refine (I.out _).mono ?_
          rintro e w2 ⟨rfl, rfl⟩
          go_wp2_with fail
          refine (F1.out _).mono ?_
          rintro e w2 ⟨rfl, b2⟩
          go_wp2_with fail
          go_ret2
          exact ⟨_, true, rfl, ⟨rfl, rfl⟩, below_step b1 b2⟩
        · have q1 : (P == f1) = false := by simpa using hc
          have q2 : (P == f2) = true := by simpa using hd
          clear hc hd
          go_wp2_with fail
          refine (I.out _).mono ?_
          rintro e w2 ⟨rfl, rfl⟩
          go_wp2_with fail
          refine (F1.out _).mono ?_
          rintro e w2 ⟨rfl, b2⟩
          go_wp2_with fail
          refine (F2.out _).mono ?_
          rintro e w3 ⟨rfl, b3⟩
          go_wp2_with fail
          go_ret2
          exact ⟨_, true, rfl, ⟨rfl, rfl⟩, below_step (below_step b1 b2) b3⟩
        · have q1 : (P == f1) = false := by simpa using hc
          have q2 : (P == f2) = false := by simpa using hd
          clear hc hd
          go_wp2_with fail
          refine (I.out _).mono ?_
          rintro e w2 ⟨rfl, rfl⟩
          go_wp2_with fail
          refine (F1.out _).mono ?_
          rintro e w2 ⟨rfl, b2⟩
          go_wp2_with fail
          refine (F2.out _).mono ?_
          rintro e w3 ⟨rfl, b3⟩
          go_wp2_with fail
          go_ret2
          exact ⟨0, false, rfl, ⟨rfl, rfl⟩, below_step (below_step b1 b2) b3⟩

theorem spec_ReadNumeral_no (l : List UInt8) (hl : 20 < l.length) (h2 : l.length ≤ 2000000) (w : World) : Calls Tryd.prog 15 #[.string (str l)] w (NB (fun k b => k = rdV l ∧ b = rdB l) w) := by
  have sz := str_size l
  have eB : rdB l = false := decide_eq_false (fun h => by omega)
  have eV : rdV l = 0 := by unfold rdV; rw [eB]; rfl
  rw [eB, eV]
  have h20 : (20 : Int) < (l.length : Int) := by omega
  clear eB eV
  go_enter Tryd.func15, Tryd.ntmps15
  go_wp2_with fail
  go_ret2
  exact ⟨0, false, rfl, ⟨rfl, rfl⟩, Below.refl _ _⟩

theorem spec_ReadNumeral (l : List UInt8) (h2 : l.length ≤ 2000000) (w : World) : Calls Tryd.prog 15 #[.string (str l)] w (NB (fun k b => k = rdV l ∧ b = rdB l) w) := by
  by_cases hl : l.length ≤ 20
  · refine spec_ReadNumeral_at l (plainL l) (sumL (plainL l)) (rdV l) (rdB l) hl (plain_len l) (Lib.hid (spec_plain9 l hl)) (Lib.hid rfl) (Lib.hid fun h => ?_) (Lib.hid fun h => ?_) w
    · have e : rdB l = false := decide_eq_false (fun q => h q.2)
      exact ⟨by unfold rdV; rw [e]; rfl, e⟩
    · have e : rdB l = true := decide_eq_true ⟨hl, h⟩
      exact ⟨by unfold rdV; rw [e]; rfl, e⟩
  · exact spec_ReadNumeral_no l (by omega) h2 w

end Go.Proofs.YtiimoejjokfkfaaDoor.Num
