/- Contracts of spec's days with a relation to a feast. -/
import Derived.Test.YtegoiiconhgjbaaFeaE
import Derived.Test.YtegoiiconhgjbaaFeaO
import Derived.Test.YtegoiiconhgjbaaMake
namespace Go.Proofs.Ytegoiiconhgjbaa.Fea
open Go.RowKit
open Go.Proofs.Ytegoiiconhgjbaa.Eas (isY It)
open Go.Proofs.Ytegoiiconhgjbaa.Sets (Rd Row Own Spans SpansO SetOut append_span spec_makeO make ok L)
attribute [local go_sem high] run_max_m run_min_m

/-- What a call leaves that answers the days with a relation to a feast. -/
def DaysO (f r k a b : Int) (w : World) (e : Ending) (w' : World) : Prop := ∃ (V : L) (v : Value), FdAns f r k a b V 0 ∧ e = .returned v ∧ Own w' w.heap.size v V ∧ Below w.heap.size w w'
def PLoop (F : Nat → L) (N : Nat) (Y0 : Int) (w : World) (k : Nat) (v i : Value) (wr : World) : Prop :=
  ∃ (j : Nat) (acc : L), i = .int .i64 (Y0 + j) ∧ k = N - j ∧ j ≤ N ∧ Hid (acc = F j) ∧ acc.length ≤ j ∧ Own wr w.heap.size v acc ∧ Below w.heap.size w wr

set_option maxHeartbeats 4000000 in
theorem spec_set (f r k a b : Int) (h : FdOk f r k a b) (w : World) : Calls Try.prog 103 #[.int .i64 f, .int .i64 r, .int .i64 k, .int .i64 a, .int .i64 b] w (DaysO f r k a b w) := by
  obtain ⟨Y0, hY0⟩ : ∃ Y0, max 1 (yr a - 1) = Y0 := ⟨_, rfl⟩
  obtain ⟨Y1, hY1⟩ : ∃ Y1, min 2000 (yr b + 1) = Y1 := ⟨_, rfl⟩
  have hok := h
  obtain ⟨hf, hr, a0, a1, hab, b1, -⟩ := hok
  have b0 : 0 ≤ b := by omega
  obtain ⟨ya0, ya1⟩ := yr_isY a a0 a1
  obtain ⟨yb0, yb1⟩ := yr_isY b b0 b1
  have hm := yr_mono hab
  obtain ⟨N, hN⟩ : ∃ N : Nat, (N : Int) = Y1 + 1 - Y0 := ⟨(Y1 + 1 - Y0).toNat, by omega⟩
  obtain ⟨p1, p2, p3⟩ := pd_ans h hY0 hY1 N hN
  have OA := Lib.hid (fun w => (spec_oldOf a (by rw [Cal.ys_1]; simpa using a0) a1 w).mono fun e w' k => SDate.year k a1)
  have OB := Lib.hid (fun w => (spec_oldOf b (by rw [Cal.ys_1]; simpa using b0) b1 w).mono fun e w' k => SDate.year k b1)
  have D := Lib.hid (fun y hy => spec_related f r k y hf hy hr)
  have BD := Lib.hid (fun y (hy : isY y) => (⟨fd_bd f y hy, rd_bd r k (fd f y)⟩ : (0 ≤ fd f y ∧ fd f y ≤ 730499) ∧ (fd f y - 7 ≤ rd r k (fd f y) ∧ rd r k (fd f y) ≤ fd f y + 7)))
  have hA1 : 1 ≤ Y0 := by omega
  have hA2 : Y1 ≤ 2000 := by omega
  have HP : Hid (∀ V, V = make (pd (fun y => rd r k (fd f y)) a b Y0 N) → FdAns f r k a b V 0) := Lib.hid (fun V e => e ▸ p3)
  obtain ⟨P, hP⟩ : ∃ P, pd (fun y => rd r k (fd f y)) a b Y0 N = P := ⟨_, rfl⟩
  rw [hP] at HP p1
  have HO := Lib.hid p1
  have hPl : P.length ≤ N := by rw [← hP]; exact pd_len _ _ _ _ _
  obtain ⟨F, F0, FY, FN, FT⟩ : ∃ F : Nat → L, Hid (F 0 = []) ∧ Hid (∀ (j : Nat) acc x, acc = F j → rd r k (fd f (Y0 + j)) = x → a ≤ x ∧ x ≤ b → acc ++ [(x, x)] = F (j + 1)) ∧ Hid (∀ (j : Nat) acc x, acc = F j → rd r k (fd f (Y0 + j)) = x → ¬ (a ≤ x ∧ x ≤ b) → acc = F (j + 1)) ∧ Hid (F N = P) := by
    refine ⟨pd (fun y => rd r k (fd f y)) a b Y0, Lib.hid rfl, Lib.hid ?_, Lib.hid ?_, Lib.hid hP⟩
    · intro j acc x h e hx
      subst h e
      rw [pd, if_pos hx]
    · intro j acc x h e hx
      subst h e
      rw [pd, if_neg hx, List.append_nil]
  clear p1 p3 hP h hm hf hr
  generalize yr a = ya at ya0 ya1 OA hY0
  generalize yr b = yb at yb0 yb1 OB hY1
  have hfa : ∀ (m d : Int) (w : World), (Instr.field 36 (.agg #[.int .i64 ya, .int .i64 m, .int .i64 d]) 0).run Try.prog w = .ok (.int .i64 ya) w := fun _ _ _ => by kernel_rfl
  have hfb : ∀ (m d : Int) (w : World), (Instr.field 36 (.agg #[.int .i64 yb, .int .i64 m, .int .i64 d]) 0).run Try.prog w = .ok (.int .i64 yb) w := fun _ _ _ => by kernel_rfl
  have HYB := Lib.hid hY1
  clear hY1
  go_enter Try.func103, Try.ntmps103
  go_wp2_with fail
  have own0 := Own.made0 w
  have bel0 : Below w.heap.size w (w.alloc (.cells #[] 55)) := (Below.refl _ _).alloc (Nat.le_refl _) _
  generalize w.alloc (.cells #[] 55) = w0 at own0 bel0 ⊢
  refine (OA.out _).mono ?_
  rintro e w1 ⟨m, d, rfl, hb⟩
  go_wp2_with fail
  have hY1 := HYB.out
  clear hY0 OA hfa
  go_loopg [11, 12] N (fun k v i wr => PLoop F N Y0 w k v i wr)
  case atStart => exact ⟨0, [], by simp, by omega, by omega, Lib.hid F0.out.symm, by simp, own0.below hb, bel0.trans (hb.mono bel0.size)⟩
  case round =>
    obtain ⟨j, acc, rfl, hk, hj, HA, hl, hown, hb1⟩ := hrel
    subst hk
    by_cases hlt : j < N
    · have hq : Y0 + (j : Int) ≤ Y1 := by omega
      have hy : isY (Y0 + (j : Int)) := ⟨by omega, by omega⟩
      have D1 := Lib.hid (D.out _ hy)
      obtain ⟨⟨q0, q1⟩, q2, q3⟩ := BD.out _ hy
      obtain ⟨x, hx⟩ : ∃ x, rd r k (fd f (Y0 + j)) = x := ⟨_, rfl⟩
      rw [hx] at D1 q2 q3
      by_cases hin : a ≤ x ∧ x ≤ b
      · have I := Lib.hid (Eas.spec_in_yes x a b hin)
        have HN := Lib.hid (FY.out j acc x HA.out hx hin)
        have hx0 : -7 ≤ x := by omega
        have hx1 : x ≤ 730506 := by omega
        clear hx HA hin hy q0 q1 q2 q3 FY FN F0 FT D BD HP HO
        go_wp2_with fail
        refine (OB.out _).mono ?_
        rintro e w2 ⟨m2, d2, rfl, hb2⟩
        have own2 := hown.below hb2
        have hb3 := hb1.trans (hb2.mono hb1.size)
        clear hown hb2 hb1
        go_wp2_with fail
        refine (D1.out _).mono ?_
        rintro e w3 ⟨rfl, hb4⟩
        have own3 := own2.below hb4
        have hb5 := hb3.trans (hb4.mono hb3.size)
        clear own2 hb4 hb3
        go_wp2_with fail
        refine (I.out _).mono ?_
        rintro e w4 ⟨rfl, rfl⟩
        go_wp2_with (at_builtin; refine append_span hb5 own3 (by omega) rfl (.tmp 38) (.tmp 42) rfl rfl rfl ?_)
        intro v4 w4 own4 hb6
        clear own3 hb5
        go_wp2_with fail
        go_roundg (N - (j + 1))
        case measure => omega
        case rel => exact ⟨j + 1, _, by go_num, by omega, by omega, HN, by simp; omega, own4, hb6⟩
      · have I := Lib.hid (Eas.spec_in_no x a b hin)
        have HN := Lib.hid (FN.out j acc x HA.out hx hin)
        have hx0 : -7 ≤ x := by omega
        have hx1 : x ≤ 730506 := by omega
        clear hx HA hin hy q0 q1 q2 q3 FY FN F0 FT D BD HP HO
        go_wp2_with fail
        refine (OB.out _).mono ?_
        rintro e w2 ⟨m2, d2, rfl, hb2⟩
        have own2 := hown.below hb2
        have hb3 := hb1.trans (hb2.mono hb1.size)
        clear hown hb2 hb1
        go_wp2_with fail
        refine (D1.out _).mono ?_
        rintro e w3 ⟨rfl, hb4⟩
        have own3 := own2.below hb4
        have hb5 := hb3.trans (hb4.mono hb3.size)
        clear own2 hb4 hb3
        go_wp2_with fail
        refine (I.out _).mono ?_
        rintro e w4 ⟨rfl, rfl⟩
        go_wp2_with fail
        go_roundg (N - (j + 1))
        case measure => omega
        case rel => exact ⟨j + 1, _, by go_num, by omega, by omega, HN, by omega, own3, hb5⟩
    · have HV : acc = P := by
        have e : j = N := by omega
        have h := HA.out
        rw [e] at h
        exact h.trans FT.out
      subst HV
      have hq : Y1 + 1 ≤ Y0 + (j : Int) := by omega
      clear HA FY FN F0 FT D BD
      go_wp2_with fail
      refine (OB.out _).mono ?_
      rintro e w2 ⟨m2, d2, rfl, hb2⟩
      have own2 := hown.below hb2
      have hb3 := hb1.trans (hb2.mono hb1.size)
      clear hown hb2 hb1
      obtain ⟨A, c, rfl, hr⟩ := own2.form
      have M := Lib.hid (spec_makeO A acc.length c acc (by omega) HO _ hr.rd)
      clear own2 hr
      go_wp2_with fail
      refine M.out.mono ?_
      rintro e w3 ⟨v, rfl, ho, hb4⟩
      have ho2 := ho.mono hb3.size
      have hb5 := hb3.trans (hb4.mono hb3.size)
      clear ho hb4 hb3
      go_wp2_with fail
      go_ret
      exact ⟨_, v, HP.out _ rfl, rfl, ho2, hb5⟩

/-- What FeastDays leaves. -/
def DaysOut (f r k a b : Int) (w : World) (e : Ending) (w' : World) : Prop := ∃ (V : L) (E : Int), FdAns f r k a b V E ∧ SetOut V E w e w'
theorem DaysOut.no {f r k a b : Int} {w w' : World} (h : ¬ FdOk f r k a b) (hb : Below w.heap.size w w') : DaysOut f r k a b w (.returned (.tuple #[.slice none 0 0, .int .i64 2])) w' :=
  ⟨[], 2, .inr ⟨h, rfl, rfl⟩, none, 0, rfl, Row.nil (Nat.le_refl _), hb⟩

set_option maxHeartbeats 2000000 in
theorem spec_FeastDays (f r k a b : Int) (w : World) : Calls Try.prog 47 #[.int .i64 f, .int .i64 r, .int .i64 k, .int .i64 a, .int .i64 b] w (DaysOut f r k a b w) := by
  by_cases hf : isF f
  · have F := Lib.hid (spec_feast_yes f hf)
    by_cases hr : isR r k
    · have R := Lib.hid (spec_relation_yes r k hr)
      by_cases ha : isDay a
      · have A := Lib.hid (spec_day_yes a ha)
        obtain ⟨Z, hZ⟩ : ∃ Z, min 730499 (a + 73000) = Z := ⟨_, rfl⟩
        obtain ⟨a0, a1⟩ := ha
        by_cases hb : a ≤ b ∧ b ≤ Z
        · have B := Lib.hid (Eas.spec_in_yes b a Z hb)
          have S := Lib.hid (spec_set f r k a b ⟨hf, hr, a0, a1, by omega, by omega, by omega⟩)
          clear hf hr hb
          go_enter Try.func47, Try.ntmps47
          go_wp2_with fail
          refine (F.out _).mono ?_
          rintro e w1 ⟨rfl, rfl⟩
          go_wp2_with fail
          refine (R.out _).mono ?_
          rintro e w1 ⟨rfl, rfl⟩
          go_wp2_with fail
          refine (A.out _).mono ?_
          rintro e w1 ⟨rfl, rfl⟩
          go_wp2_with fail
          refine (B.out _).mono ?_
          rintro e w1 ⟨rfl, rfl⟩
          go_wp2_with fail
          refine (S.out _).mono ?_
          rintro e w1 ⟨V, v, hV, rfl, ho, hb⟩
          obtain ⟨A4, c4, rfl, hrow⟩ := ho.form
          have HH := Lib.hid (And.intro hV hrow)
          clear hV hrow ho
          go_wp2_with fail
          go_ret2
          exact ⟨V, 0, HH.out.1, A4, c4, rfl, HH.out.2, hb⟩
        · have B := Lib.hid (Eas.spec_in_no b a Z hb)
          have HN := Lib.hid (show ¬ FdOk f r k a b from fun h => hb ⟨h.2.2.2.2.1, by have h1 := h.2.2.2.2.2.1; have h2 := h.2.2.2.2.2.2; omega⟩)
          clear hf hr hb
          go_enter Try.func47, Try.ntmps47
          go_wp2_with fail
          refine (F.out _).mono ?_
          rintro e w1 ⟨rfl, rfl⟩
          go_wp2_with fail
          refine (R.out _).mono ?_
          rintro e w1 ⟨rfl, rfl⟩
          go_wp2_with fail
          refine (A.out _).mono ?_
          rintro e w1 ⟨rfl, rfl⟩
          go_wp2_with fail
          refine (B.out _).mono ?_
          rintro e w1 ⟨rfl, rfl⟩
          go_wp2_with fail
          go_ret2
          exact DaysOut.no HN.out (Below.refl _ _)
      · have A := Lib.hid (spec_day_no a ha)
        have HN := Lib.hid (show ¬ FdOk f r k a b from fun h => ha ⟨h.2.2.1, h.2.2.2.1⟩)
        clear hf hr ha
        go_enter Try.func47, Try.ntmps47
        go_wp2_with fail
        refine (F.out _).mono ?_
        rintro e w1 ⟨rfl, rfl⟩
        go_wp2_with fail
        refine (R.out _).mono ?_
        rintro e w1 ⟨rfl, rfl⟩
        go_wp2_with fail
        refine (A.out _).mono ?_
        rintro e w1 ⟨rfl, rfl⟩
        go_wp2_with fail
        go_ret2
        exact DaysOut.no HN.out (Below.refl _ _)
    · have R := Lib.hid (spec_relation_no r k hr)
      have HN := Lib.hid (show ¬ FdOk f r k a b from fun h => hr h.2.1)
      clear hf hr
      go_enter Try.func47, Try.ntmps47
      go_wp2_with fail
      refine (F.out _).mono ?_
      rintro e w1 ⟨rfl, rfl⟩
      go_wp2_with fail
      refine (R.out _).mono ?_
      rintro e w1 ⟨rfl, rfl⟩
      go_wp2_with fail
      go_ret2
      exact DaysOut.no HN.out (Below.refl _ _)
  · have F := Lib.hid (spec_feast_no f hf)
    have HN := Lib.hid (show ¬ FdOk f r k a b from fun h => hf h.1)
    clear hf
    go_enter Try.func47, Try.ntmps47
    go_wp2_with fail
    refine (F.out _).mono ?_
    rintro e w1 ⟨rfl, rfl⟩
    go_wp2_with fail
    go_ret2
    exact DaysOut.no HN.out (Below.refl _ _)

end Go.Proofs.Ytegoiiconhgjbaa.Fea
