/- The contract of spec's nearest feast. -/
import Derived.Test.YtegoiiconhgjbaaFeaC
namespace Go.Proofs.Ytegoiiconhgjbaa.Fea
open Go.RowKit
open Go.Proofs.Ytegoiiconhgjbaa.Eas (isY It)
open Go.Proofs.Ytegoiiconhgjbaa.Ints (Rd Row Own)

theorem run_max_m (P : Program) (w : World) (ts : Array TypeId) (t : TypeId) (x y : Int) : (Builtin.max_ ts t #[.int .i64 x, .int .i64 y]).run P w = .ok (.int .i64 (max x y)) w := by
  have e : (if y > x then y else x) = max x y := by split <;> omega
  rw [← e]
  simp [Builtin.max_, Builtin.max2]
theorem run_min_m (P : Program) (w : World) (ts : Array TypeId) (t : TypeId) (x y : Int) : (Builtin.min_ ts t #[.int .i64 x, .int .i64 y]).run P w = .ok (.int .i64 (min x y)) w := by
  have e : (if y < x then y else x) = min x y := by split <;> omega
  rw [← e]
  simp [Builtin.min_, Builtin.min2]
attribute [local go_sem high] run_max_m run_min_m

def NearOut (n : Int) (w : World) (e : Ending) (w' : World) : Prop := ∃ b a c, e = .returned (.tuple #[.int .i64 b, .int .i64 a, .int .i64 c]) ∧ NearAns n b a c ∧ Below w.heap.size w w'
/-- What is known before feast f of the year y: whether one was found, its number, how many days before n. -/
def NInv (n Y0 y f : Int) (t : Bool) (b a : Int) : Prop := Y0 ≤ y ∧ ((t = false ∧ y = Y0 ∧ f = 0 ∧ b = 0 ∧ a = 0) ∨ (t = true ∧ Best n Y0 y f b a))
theorem NInv.take {n Y0 y f : Int} {t : Bool} {b a x d : Int} (h : NInv n Y0 y f t b a) (hf : 0 ≤ f) (hx : fd f y = x) (hd : n - x = d) (hb : t = false ∨ bet d f a b) : NInv n Y0 y (f + 1) true f d := by
  subst hx hd
  obtain ⟨hy, h⟩ := h
  refine ⟨hy, .inr ⟨rfl, ?_⟩⟩
  rcases h with ⟨rfl, rfl, rfl, rfl, rfl⟩ | ⟨rfl, h⟩
  · exact best_first
  · exact best_take hf hy h (hb.resolve_left (by simp))
theorem NInv.leave {n Y0 y f : Int} {b a x d : Int} (h : NInv n Y0 y f true b a) (hf : 0 ≤ f) (hx : fd f y = x) (hd : n - x = d) (hb : ¬ bet d f a b) : NInv n Y0 y (f + 1) true b a := by
  subst hx hd
  obtain ⟨hy, h⟩ := h
  refine ⟨hy, .inr ⟨rfl, ?_⟩⟩
  rcases h with ⟨h, -⟩ | ⟨-, h⟩
  · cases h
  · exact best_leave hf hy h hb
theorem NInv.next {n Y0 y : Int} {t : Bool} {b a : Int} (h : NInv n Y0 y 20 t b a) : NInv n Y0 (y + 1) 0 t b a := by
  obtain ⟨hy, h⟩ := h
  refine ⟨by omega, ?_⟩
  rcases h with ⟨-, -, h, -⟩ | ⟨e, h⟩
  · omega
  · exact .inr ⟨e, best_year hy h⟩
theorem NInv.done {n Y0 y : Int} {t : Bool} {b a : Int} (h : NInv n Y0 y 0 t b a) (hy : Y0 < y) : Best n Y0 y 0 b a := by
  obtain ⟨-, h⟩ := h
  rcases h with ⟨-, h, -⟩ | ⟨-, h⟩
  · omega
  · exact h

set_option maxHeartbeats 8000000 in
theorem spec_NearestFeast (n : Int) (w : World) : Calls Try.prog 50 #[.int .i64 n] w (NearOut n w) := by
  by_cases h : isDay n
  · have Y := Lib.hid (spec_day_yes n h)
    obtain ⟨n0, n1⟩ := h
    have O := Lib.hid (fun w => (spec_oldOf n (by rw [Cal.ys_1]; simpa using n0) n1 w).mono fun e w' k => SDate.year k n1)
    obtain ⟨hy1, hy2⟩ := yr_isY n n0 n1
    obtain ⟨Y0, hY0⟩ : ∃ Y0, max 1 (yr n - 1) = Y0 := ⟨_, rfl⟩
    obtain ⟨Y1, hY1⟩ : ∃ Y1, min 2000 (yr n + 1) = Y1 := ⟨_, rfl⟩
    have HY : Hid (∀ b a, Best n Y0 (Y1 + 1) 0 b a → NearAns n b a 0) := Lib.hid (fun b a hb => .inl ⟨n0, n1, rfl, by unfold y0 y1; rw [hY0, hY1]; exact hb⟩)
    have hA1 : 1 ≤ Y0 := by omega
    have hA2 : Y0 ≤ Y1 := by omega
    have hA3 : Y1 ≤ 2000 := by omega
    generalize yr n = y at hy1 hy2 O hY0 hY1
    have hfd : ∀ (m d : Int) (w : World), (Instr.field 36 (.agg #[.int .i64 y, .int .i64 m, .int .i64 d]) 0).run Try.prog w = .ok (.int .i64 y) w := fun _ _ _ => by kernel_rfl
    go_enter Try.func50, Try.ntmps50
    go_wp2_with fail
    refine (Y.out _).mono ?_
    rintro e w1 ⟨rfl, rfl⟩
    go_wp2_with fail
    refine (O.out _).mono ?_
    rintro e w1 ⟨m, d, rfl, hb⟩
    go_wp2_with fail
    go_loopg [6, 7, 8, 9] (Y1 + 1 - Y0).toNat (fun k b a t i wr => ∃ (B A q : Int) (T : Bool), b = .int .i64 B ∧ a = .int .i64 A ∧ t = .bool T ∧ i = .int .i64 q ∧ k = (Y1 + 1 - q).toNat ∧ Y0 ≤ q ∧ q ≤ Y1 + 1 ∧ -730499 ≤ A ∧ A ≤ 730499 ∧ 0 ≤ B ∧ B ≤ 19 ∧ Hid (NInv n Y0 q 0 T B A) ∧ Below w.heap.size w wr)
    case atStart => exact ⟨0, 0, Y0, false, rfl, rfl, rfl, rfl, rfl, by omega, by omega, by omega, by omega, by omega, by omega, Lib.hid ⟨by omega, .inl ⟨rfl, rfl, rfl, rfl, rfl⟩⟩, hb⟩
    case round =>
      obtain ⟨B, A, q, T, rfl, rfl, rfl, rfl, hk, q0, q1, a0, a1, b0, b1, HI, hb1⟩ := hrel
      subst hk
      by_cases hq : q ≤ Y1
      · have HD := Lib.hid (fun f (hf : isF f) => spec_day f q hf ⟨by omega, by omega⟩)
        have HB := Lib.hid (fun f => fd_bd f q ⟨by omega, by omega⟩)
        go_wp2_with fail
        go_loopg [6, 7, 8, 10] 20 (fun k b a t i wr => ∃ (B A : Int) (f : Nat) (T : Bool), b = .int .i64 B ∧ a = .int .i64 A ∧ t = .bool T ∧ i = .int .i64 f ∧ k = 20 - f ∧ f ≤ 20 ∧ -730499 ≤ A ∧ A ≤ 730499 ∧ 0 ≤ B ∧ B ≤ 19 ∧ Hid (NInv n Y0 q f T B A) ∧ Below w.heap.size w wr)
        case atStart => exact ⟨B, A, 0, T, rfl, rfl, rfl, rfl, by omega, by omega, a0, a1, b0, b1, HI, hb1⟩
        case round =>
          clear a0 a1 b0 b1 HI hb1
          clear B A T
          obtain ⟨B, A, f, T, rfl, rfl, rfl, rfl, hk, hf, a0, a1, b0, b1, HI, hb1⟩ := hrel
          subst hk
          by_cases hlt : f < 20
          · have D := Lib.hid (HD.out f ⟨by omega, by omega⟩)
            obtain ⟨x0, x1⟩ := HB.out f
            obtain ⟨x, hx⟩ : ∃ x, fd (f : Int) q = x := ⟨_, rfl⟩
            rw [hx] at D x0 x1
            obtain ⟨d, hd⟩ : ∃ d, n - x = d := ⟨_, rfl⟩
            have d0 : -730499 ≤ d := by omega
            have d1 : d ≤ 730499 := by omega
            have HT : Hid (T = false ∨ bet d f A B → NInv n Y0 q (f + 1) true f d) := Lib.hid (fun hb => HI.out.take (by omega) hx hd hb)
            have HL : Hid (T = true → ¬ bet d f A B → NInv n Y0 q (f + 1) true B A) := by
              intro e hb
              subst e
              exact HI.out.leave (by omega) hx hd hb
            clear HI hx HD HB Y O HY
            obtain ⟨M, hM⟩ : ∃ M, max d (-d) = M := ⟨_, rfl⟩
            obtain ⟨N, hN⟩ : ∃ N, max A (-A) = N := ⟨_, rfl⟩
            have HBT : Hid (bet d f A B ↔ (M < N ∨ (M = N ∧ (d > A ∨ (d = A ∧ (f : Int) < B))))) := by
              unfold bet
              rw [hM, hN]
              exact Iff.rfl
            have HC : (M < N) ∨ (N ≤ M ∧ (M == N) = false) ∨ (N ≤ M ∧ (M == N) = true ∧ A < d) ∨ (N ≤ M ∧ (M == N) = true ∧ d ≤ A ∧ (d == A) = false) ∨ (N ≤ M ∧ (M == N) = true ∧ d ≤ A ∧ (d == A) = true ∧ (f : Int) < B) ∨ (N ≤ M ∧ (M == N) = true ∧ d ≤ A ∧ (d == A) = true ∧ B ≤ (f : Int)) := by
              simp only [beq_iff_eq, beq_eq_false_iff_ne]
              omega
            rcases HC with c1 | ⟨n1, n2⟩ | ⟨n1, c2, c3⟩ | ⟨n1, c2, n3, n4⟩ | ⟨n1, c2, n3, c4, c5⟩ | ⟨n1, c2, n3, c4, n5⟩
            · have hbt : bet d f A B := by
                have h := HBT.out
                rw [h]
                clear h hM hN HT HL HBT
                omega
              cases T
              · have HN := Lib.hid (HT.out (.inl rfl))
                clear HT HL HBT hbt
                go_wp2_with fail
                refine (D.out _).mono ?_
                rintro e w2 ⟨rfl, hb3⟩
                go_wp2_with fail
                go_roundg (20 - (f + 1))
                case measure => omega
                case rel => exact ⟨(f : Int), d, f + 1, true, rfl, rfl, rfl, by go_num, by omega, by omega, by omega, by omega, by omega, by omega, HN, hb1.trans (hb3.mono hb1.size)⟩
              · have HN := Lib.hid (HT.out (.inr hbt))
                clear HT HL HBT hbt
                go_wp2_with fail
                refine (D.out _).mono ?_
                rintro e w2 ⟨rfl, hb3⟩
                go_wp2_with fail
                go_roundg (20 - (f + 1))
                case measure => omega
                case rel => exact ⟨(f : Int), d, f + 1, true, rfl, rfl, rfl, by go_num, by omega, by omega, by omega, by omega, by omega, by omega, HN, hb1.trans (hb3.mono hb1.size)⟩
            · have hbt : ¬ bet d f A B := by
                have h := HBT.out
                have hn2 := (beq_eq_false_iff_ne).1 n2
                rw [h]
                clear h hM hN HT HL HBT
                omega
              cases T
              · have HN := Lib.hid (HT.out (.inl rfl))
                clear HT HL HBT hbt
                go_wp2_with fail
                refine (D.out _).mono ?_
                rintro e w2 ⟨rfl, hb3⟩
                go_wp2_with fail
                go_roundg (20 - (f + 1))
                case measure => omega
                case rel => exact ⟨(f : Int), d, f + 1, true, rfl, rfl, rfl, by go_num, by omega, by omega, by omega, by omega, by omega, by omega, HN, hb1.trans (hb3.mono hb1.size)⟩
              · have HN := Lib.hid (HL.out rfl hbt)
                clear HT HL HBT hbt
                go_wp2_with fail
                refine (D.out _).mono ?_
                rintro e w2 ⟨rfl, hb3⟩
                go_wp2_with fail
                go_roundg (20 - (f + 1))
                case measure => omega
                case rel => exact ⟨B, A, f + 1, true, rfl, rfl, rfl, by go_num, by omega, by omega, by omega, by omega, by omega, by omega, HN, hb1.trans (hb3.mono hb1.size)⟩
            · have hbt : bet d f A B := by
                have h := HBT.out
                have hc2 := beq_iff_eq.1 c2
                rw [h]
                clear h hM hN HT HL HBT
                omega
              cases T
              · have HN := Lib.hid (HT.out (.inl rfl))
                clear HT HL HBT hbt
                go_wp2_with fail
                refine (D.out _).mono ?_
                rintro e w2 ⟨rfl, hb3⟩
                go_wp2_with fail
                go_roundg (20 - (f + 1))
                case measure => omega
                case rel => exact ⟨(f : Int), d, f + 1, true, rfl, rfl, rfl, by go_num, by omega, by omega, by omega, by omega, by omega, by omega, HN, hb1.trans (hb3.mono hb1.size)⟩
              · have HN := Lib.hid (HT.out (.inr hbt))
                clear HT HL HBT hbt
                go_wp2_with fail
                refine (D.out _).mono ?_
                rintro e w2 ⟨rfl, hb3⟩
                go_wp2_with fail
                go_roundg (20 - (f + 1))
                case measure => omega
                case rel => exact ⟨(f : Int), d, f + 1, true, rfl, rfl, rfl, by go_num, by omega, by omega, by omega, by omega, by omega, by omega, HN, hb1.trans (hb3.mono hb1.size)⟩
            · have hbt : ¬ bet d f A B := by
                have h := HBT.out
                have hc2 := beq_iff_eq.1 c2
                have hn4 := (beq_eq_false_iff_ne).1 n4
                rw [h]
                clear h hM hN HT HL HBT
                omega
              cases T
              · have HN := Lib.hid (HT.out (.inl rfl))
                clear HT HL HBT hbt
                go_wp2_with fail
                refine (D.out _).mono ?_
                rintro e w2 ⟨rfl, hb3⟩
                go_wp2_with fail
                go_roundg (20 - (f + 1))
                case measure => omega
                case rel => exact ⟨(f : Int), d, f + 1, true, rfl, rfl, rfl, by go_num, by omega, by omega, by omega, by omega, by omega, by omega, HN, hb1.trans (hb3.mono hb1.size)⟩
              · have HN := Lib.hid (HL.out rfl hbt)
                clear HT HL HBT hbt
                go_wp2_with fail
                refine (D.out _).mono ?_
                rintro e w2 ⟨rfl, hb3⟩
                go_wp2_with fail
                go_roundg (20 - (f + 1))
                case measure => omega
                case rel => exact ⟨B, A, f + 1, true, rfl, rfl, rfl, by go_num, by omega, by omega, by omega, by omega, by omega, by omega, HN, hb1.trans (hb3.mono hb1.size)⟩
            · have hbt : bet d f A B := by
                have h := HBT.out
                have hc2 := beq_iff_eq.1 c2
                have hc4 := beq_iff_eq.1 c4
                rw [h]
                clear h hM hN HT HL HBT
                omega
              cases T
              · have HN := Lib.hid (HT.out (.inl rfl))
                clear HT HL HBT hbt
                go_wp2_with fail
                refine (D.out _).mono ?_
                rintro e w2 ⟨rfl, hb3⟩
                go_wp2_with fail
                go_roundg (20 - (f + 1))
                case measure => omega
                case rel => exact ⟨(f : Int), d, f + 1, true, rfl, rfl, rfl, by go_num, by omega, by omega, by omega, by omega, by omega, by omega, HN, hb1.trans (hb3.mono hb1.size)⟩
              · have HN := Lib.hid (HT.out (.inr hbt))
                clear HT HL HBT hbt
                go_wp2_with fail
                refine (D.out _).mono ?_
                rintro e w2 ⟨rfl, hb3⟩
                go_wp2_with fail
                go_roundg (20 - (f + 1))
                case measure => omega
                case rel => exact ⟨(f : Int), d, f + 1, true, rfl, rfl, rfl, by go_num, by omega, by omega, by omega, by omega, by omega, by omega, HN, hb1.trans (hb3.mono hb1.size)⟩
            · have hbt : ¬ bet d f A B := by
                have h := HBT.out
                have hc2 := beq_iff_eq.1 c2
                have hc4 := beq_iff_eq.1 c4
                rw [h]
                clear h hM hN HT HL HBT
                omega
              cases T
              · have HN := Lib.hid (HT.out (.inl rfl))
                clear HT HL HBT hbt
                go_wp2_with fail
                refine (D.out _).mono ?_
                rintro e w2 ⟨rfl, hb3⟩
                go_wp2_with fail
                go_roundg (20 - (f + 1))
                case measure => omega
                case rel => exact ⟨(f : Int), d, f + 1, true, rfl, rfl, rfl, by go_num, by omega, by omega, by omega, by omega, by omega, by omega, HN, hb1.trans (hb3.mono hb1.size)⟩
              · have HN := Lib.hid (HL.out rfl hbt)
                clear HT HL HBT hbt
                go_wp2_with fail
                refine (D.out _).mono ?_
                rintro e w2 ⟨rfl, hb3⟩
                go_wp2_with fail
                go_roundg (20 - (f + 1))
                case measure => omega
                case rel => exact ⟨B, A, f + 1, true, rfl, rfl, rfl, by go_num, by omega, by omega, by omega, by omega, by omega, by omega, HN, hb1.trans (hb3.mono hb1.size)⟩
          · have HN : Hid (NInv n Y0 (q + 1) 0 T B A) := by
              have e : f = 20 := by omega
              have h := HI.out
              rw [e] at h
              exact h.next
            have hge : (20 : Int) ≤ f := by omega
            clear HI HD HB
            go_wp2_with fail
            go_roundg (Y1 + 1 - (q + 1)).toNat
            case measure => omega
            case rel => exact ⟨B, A, q + 1, T, rfl, rfl, rfl, by go_num, rfl, by omega, by omega, a0, a1, b0, b1, HN, hb1⟩
      · have HN : Hid (NearAns n B A 0) := by
          have e : q = Y1 + 1 := by omega
          subst e
          exact HY.out B A (HI.out.done (by omega))
        have hge : Y1 + 1 ≤ q := by omega
        clear HI HY
        go_wp2_with fail
        go_ret3
        exact ⟨B, A, 0, rfl, HN, hb1⟩
  · have Y := Lib.hid (spec_day_no n h)
    have HN := Lib.hid (show NearAns n 0 0 2 from .inr ⟨h, rfl, rfl, rfl⟩)
    clear h
    go_enter Try.func50, Try.ntmps50
    go_wp2_with fail
    refine (Y.out _).mono ?_
    rintro e w1 ⟨rfl, rfl⟩
    go_wp2_with fail
    go_ret3
    exact ⟨0, 0, 2, rfl, HN, Below.refl _ _⟩

end Go.Proofs.Ytegoiiconhgjbaa.Fea
