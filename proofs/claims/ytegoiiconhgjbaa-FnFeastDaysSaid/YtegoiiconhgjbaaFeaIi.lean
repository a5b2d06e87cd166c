/- The contract of impl's FeastDays. -/
import Derived.Test.YtegoiiconhgjbaaFeaIe
import Derived.Test.YtegoiiconhgjbaaFeaP
namespace Go.Proofs.Ytegoiiconhgjbaa.Fea
open Go.RowKit
open Go.Proofs.Ytegoiiconhgjbaa.Eas (isY It)
open Go.Proofs.Ytegoiiconhgjbaa.Sets (Rd Row Own Spans SpansO SetOut append_span L)
attribute [local go_sem high] run_max_m run_min_m

def ILoop (F : Nat → L) (N : Nat) (Y0 : Int) (w0 : World) (k : Nat) (v i : Value) (wr : World) : Prop :=
  ∃ (j : Nat) (acc : L), i = .int .i64 (Y0 + j) ∧ k = N - j ∧ j ≤ N ∧ Hid (acc = F j) ∧ acc.length ≤ j ∧ Own wr w0.heap.size v acc ∧ Below w0.heap.size w0 wr

set_option maxRecDepth 100000 in
set_option maxHeartbeats 8000000 in
theorem impl_FeastDays_yes (f r k a b : Int) (h : FdOk f r k a b) (w : World) : Calls Try.prog 46 #[.int .i64 f, .int .i64 r, .int .i64 k, .int .i64 a, .int .i64 b] w (DaysOut f r k a b w) := by
  obtain ⟨Y0, hY0⟩ : ∃ Y0, max (yr a - 1) 1 = Y0 := ⟨_, rfl⟩
  obtain ⟨Y1, hY1⟩ : ∃ Y1, min (yr b + 1) 2000 = Y1 := ⟨_, rfl⟩
  have hok := h
  obtain ⟨hf, hr, a0, a1, hab, b1, hg⟩ := hok
  have b0 : 0 ≤ b := by omega
  obtain ⟨ya0, ya1⟩ := yr_isY a a0 a1
  obtain ⟨yb0, yb1⟩ := yr_isY b b0 b1
  have hm := yr_mono hab
  obtain ⟨N, hN⟩ : ∃ N : Nat, (N : Int) = Y1 + 1 - Y0 := ⟨(Y1 + 1 - Y0).toNat, by omega⟩
  obtain ⟨p2, p3⟩ := pd_ansI h hY0 hY1 N hN
  have FY0 := Lib.hid (impl_feast_yes f hf)
  have RE := Lib.hid (impl_relation_yes r k hr)
  have DA := Lib.hid (Sets.impl_isDay a true (decide_eq_true ⟨a0, a1⟩))
  have DB := Lib.hid (Sets.impl_isDay b true (decide_eq_true ⟨b0, b1⟩))
  have OA := Lib.hid (impl_dateYr a ⟨a0, a1⟩)
  have OB := Lib.hid (impl_dateYr b ⟨b0, b1⟩)
  have RU := Lib.hid impl_rules
  obtain ⟨j0, rfl⟩ : ∃ j : Nat, f = j := ⟨f.toNat, by have := hf.1; omega⟩
  have hj0 : j0 < 20 := by have := hf.2; omega
  have hix := ruV_index j0 hj0
  have eg := ruF_enters j0 hj0
  have D := Lib.hid (fun y hy => impl_rule j0 hj0 y hy)
  have NU := Lib.hid (fun y (hy : isY y) => impl_relNum (fd j0 y) r k _ (fd_bd j0 y hy).1 (fd_bd j0 y hy).2 hr rfl)
  have BD := Lib.hid (fun y (hy : isY y) => (⟨fd_bd j0 y hy, rd_bd r k (fd j0 y)⟩ : (0 ≤ fd j0 y ∧ fd j0 y ≤ 730499) ∧ (fd j0 y - 7 ≤ rd r k (fd j0 y) ∧ rd r k (fd j0 y) ≤ fd j0 y + 7)))
  have hA1 : 1 ≤ Y0 := by omega
  have hA2 : Y1 ≤ 2000 := by omega
  obtain ⟨F, F0, FY, FN, FT⟩ : ∃ F : Nat → L, Hid (F 0 = []) ∧ Hid (∀ (j : Nat) acc x, acc = F j → rd r k (fd j0 (Y0 + j)) = x → a ≤ x ∧ x ≤ b → acc ++ [(x, x)] = F (j + 1)) ∧ Hid (∀ (j : Nat) acc x, acc = F j → rd r k (fd j0 (Y0 + j)) = x → ¬ (a ≤ x ∧ x ≤ b) → acc = F (j + 1)) ∧ Hid (FdAns j0 r k a b (F N) 0) := by
    refine ⟨pd (fun y => rd r k (fd j0 y)) a b Y0, Lib.hid rfl, Lib.hid ?_, Lib.hid ?_, Lib.hid p3⟩
    · intro j acc x h e hx
      subst h e
      rw [pd, if_pos hx]
    · intro j acc x h e hx
      subst h e
      rw [pd, if_neg hx, List.append_nil]
  clear p3 h hm hf hr hj0
  generalize ruV = V at RU hix
  generalize bs (nmL (j0 : Int)) = s at hix
  generalize ruF j0 = g at hix eg D
  generalize yr a = ya at ya0 ya1 OA hY0
  generalize yr b = yb at yb0 yb1 OB hY1
  have HYB := Lib.hid hY1
  go_enter Try.func46, Try.ntmps46
  go_wp2_with fail
  refine (FY0.out _).mono ?_
  rintro e w1 ⟨rfl, rfl⟩
  go_wp2_with fail
  refine (RE.out _).mono ?_
  rintro e w1 ⟨rfl, rfl⟩
  go_wp2_with fail
  refine (DA.out _).mono ?_
  rintro e w1 ⟨rfl, rfl⟩
  go_wp2_with fail
  refine (DB.out _).mono ?_
  rintro e w1 ⟨rfl, rfl⟩
  go_wp2_with fail
  refine (OA.out _).mono ?_
  rintro e w1 ⟨ma, da, rfl, hba⟩
  have S1 := ((St.start w).call hba).alloc 36 #[.int .i64 ya, .int .i64 ma, .int .i64 da]
  clear hba
  go_wp2_with fail
  refine (OB.out _).mono ?_
  rintro e w2 ⟨mb, db, rfl, hbb⟩
  have S2 := (S1.call hbb).alloc 36 #[.int .i64 yb, .int .i64 mb, .int .i64 db]
  clear hbb
  go_wp2_with fail
  refine (RU.out _).mono ?_
  rintro e w3 ⟨rfl, hbr⟩
  have S3 := (S2.call hbr).alloc 79 #[.string s, .func (.func g) #[] #[]]
  clear hbr
  have q0 : (w3.alloc (.cells #[.string s, .func (.func g) #[] #[]] 79)).cell? ⟨w1.heap.size, 0, none⟩ = some (.int .i64 ya) := S3.b2.cell 0
  go_wp2_with fail
  have hbw := S3.bel
  obtain ⟨g3, hg3⟩ : ∃ g3, w3.heap.size = g3 := ⟨_, rfl⟩
  obtain ⟨g2, hg2⟩ : ∃ g2, w2.heap.size = g2 := ⟨_, rfl⟩
  rw [hg3, hg2] at S3
  rw [hg3, hg2]
  generalize w3.alloc (.cells #[.string s, .func (.func g) #[] #[]] 79) = w0 at *
  clear q0 S1 S2 hg3 hg2
  have HS := Lib.hid S3
  have hY1 := HYB.out
  clear S3 hY0 OA OB RU DA DB RE FY0 hix
  go_loopg [17, 18] N (fun k v i wr => ILoop F N Y0 w0 k v i wr)
  case atStart => exact ⟨0, [], by simp, by omega, by omega, Lib.hid F0.out.symm, by simp, Own.nil w0 w0.heap.size, Below.refl _ _⟩
  case round =>
    obtain ⟨j, acc, rfl, hk, hj, HA, hl, hown, hb1⟩ := hrel
    subst hk
    have SW := HS.out.call hb1
    have c0 : wr.cell? ⟨g2, 0, none⟩ = some (.int .i64 yb) := SW.b1.cell 0
    have c1 : wr.cell? ⟨g3, 1, none⟩ = some (.func (.func g) #[] #[]) := SW.b0.cell 1
    clear SW
    by_cases hlt : j < N
    · have hq : Y0 + (j : Int) ≤ Y1 := by omega
      have hy : isY (Y0 + (j : Int)) := ⟨by omega, by omega⟩
      have D1 := Lib.hid (D.out _ hy)
      have N1 := Lib.hid (NU.out _ hy)
      obtain ⟨⟨q0, q1⟩, q2, q3⟩ := BD.out _ hy
      obtain ⟨x, hx⟩ : ∃ x, rd r k (fd j0 (Y0 + j)) = x := ⟨_, rfl⟩
      rw [hx] at N1 q2 q3
      have hx0 : -7 ≤ x := by omega
      have hx1 : x ≤ 730506 := by omega
      have FYx := Lib.hid (FY.out j acc x HA.out hx)
      have FNx := Lib.hid (FN.out j acc x HA.out hx)
      clear hx HA hy q0 q1 q2 q3 FY FN F0 FT D NU BD HS
      generalize fd (j0 : Int) (Y0 + (j : Int)) = dd at D1 N1
      by_cases hax : a ≤ x
      · by_cases hxb : x ≤ b
        · have HN := Lib.hid (FYx.out ⟨hax, hxb⟩)
          clear FYx FNx
          go_wp2_with fail
          refine (D1.out _).mono ?_
          rintro e w4 ⟨rfl, hb4⟩
          have own4 := hown.below hb4
          have hb5 := hb1.trans (hb4.mono hb1.size)
          clear hb4 hown hb1
          go_wp2_with fail
          refine (N1.out _).mono ?_
          rintro e w5 ⟨rfl, hb6⟩
          have own5 := own4.below hb6
          have hb7 := hb5.trans (hb6.mono hb5.size)
          clear hb5 hb6 own4
          go_wp2_with (at_builtin; refine append_span hb7 own5 (by omega) rfl (.tmp 88) (.tmp 92) rfl rfl rfl ?_)
          intro v6 w6 own6 hb8
          clear own5 hb7
          go_wp2_with fail
          go_roundg (N - (j + 1))
          case measure => omega
          case rel => exact ⟨j + 1, _, by push_cast; go_num, by omega, by omega, HN, by simp; omega, own6, hb8⟩
        · have HN := Lib.hid (FNx.out (fun h => hxb h.2))
          have hxb2 : decide (x ≤ b) = false := by simpa using hxb
          clear FYx FNx hxb
          go_wp2_with fail
          refine (D1.out _).mono ?_
          rintro e w4 ⟨rfl, hb4⟩
          have own4 := hown.below hb4
          have hb5 := hb1.trans (hb4.mono hb1.size)
          clear hb4 hown hb1
          go_wp2_with fail
          refine (N1.out _).mono ?_
          rintro e w5 ⟨rfl, hb6⟩
          have own5 := own4.below hb6
          have hb7 := hb5.trans (hb6.mono hb5.size)
          clear hb5 hb6 own4
          go_wp2_with fail
          go_roundg (N - (j + 1))
          case measure => omega
          case rel => exact ⟨j + 1, _, by push_cast; go_num, by omega, by omega, HN, by omega, own5, hb7⟩
      · have HN := Lib.hid (FNx.out (fun h => hax h.1))
        have hax2 : decide (a ≤ x) = false := by simpa using hax
        clear FYx FNx hax
        go_wp2_with fail
        refine (D1.out _).mono ?_
        rintro e w4 ⟨rfl, hb4⟩
        have own4 := hown.below hb4
        have hb5 := hb1.trans (hb4.mono hb1.size)
        clear hb4 hown hb1
        go_wp2_with fail
        refine (N1.out _).mono ?_
        rintro e w5 ⟨rfl, hb6⟩
        have own5 := own4.below hb6
        have hb7 := hb5.trans (hb6.mono hb5.size)
        clear hb5 hb6 own4
        go_wp2_with fail
        go_roundg (N - (j + 1))
        case measure => omega
        case rel => exact ⟨j + 1, _, by push_cast; go_num, by omega, by omega, HN, by omega, own5, hb7⟩
    · have HV : FdAns j0 r k a b acc 0 := by
        have e : j = N := by omega
        have h := HA.out
        rw [e] at h
        rw [h]
        exact FT.out
      have HV := Lib.hid HV
      have hq : Y1 + 1 ≤ Y0 + (j : Int) := by omega
      clear HA FY FN F0 FT D NU BD HS
      obtain ⟨A4, c4, rfl, hrow⟩ := hown.form
      have HH := Lib.hid ((hown.mono hbw.size).form)
      clear hown hrow
      go_wp2_with fail
      go_ret2
      obtain ⟨A5, c5, e5, hrow⟩ := HH.out
      rw [e5]
      exact ⟨acc, 0, HV.out, A5, c5, rfl, hrow, hbw.trans (hb1.mono hbw.size)⟩

set_option maxRecDepth 100000 in
set_option maxHeartbeats 4000000 in
theorem impl_FeastDays (f r k a b : Int) (w : World) : Calls Try.prog 46 #[.int .i64 f, .int .i64 r, .int .i64 k, .int .i64 a, .int .i64 b] w (DaysOut f r k a b w) := by
  by_cases hf : isF f
  · have FF := Lib.hid (impl_feast_yes f hf)
    by_cases hr : isR r k
    · have RE := Lib.hid (impl_relation_yes r k hr)
      by_cases ha : 0 ≤ a ∧ a ≤ 730499
      · have DA := Lib.hid (Sets.impl_isDay a true (decide_eq_true ha))
        by_cases hb : 0 ≤ b ∧ b ≤ 730499
        · have DB := Lib.hid (Sets.impl_isDay b true (decide_eq_true hb))
          by_cases hab : a ≤ b
          · by_cases hg : b ≤ a + 73000
            · exact impl_FeastDays_yes f r k a b ⟨hf, hr, ha.1, ha.2, hab, hb.2, hg⟩ w
            · have HN := Lib.hid (show ¬ FdOk f r k a b from fun h => hg h.2.2.2.2.2.2)
              obtain ⟨a0, a1⟩ := ha
              obtain ⟨b0, b1⟩ := hb
              have hg2 : 73000 < b - a := by omega
              clear hf hr hg
              go_enter Try.func46, Try.ntmps46
              go_wp2_with fail
              refine (FF.out _).mono ?_
              rintro e w1 ⟨rfl, rfl⟩
              go_wp2_with fail
              refine (RE.out _).mono ?_
              rintro e w1 ⟨rfl, rfl⟩
              go_wp2_with fail
              refine (DA.out _).mono ?_
              rintro e w1 ⟨rfl, rfl⟩
              go_wp2_with fail
              refine (DB.out _).mono ?_
              rintro e w1 ⟨rfl, rfl⟩
              go_wp2_with fail
              go_ret2
              exact DaysOut.no HN.out (Below.refl _ _)
          · have HN := Lib.hid (show ¬ FdOk f r k a b from fun h => hab h.2.2.2.2.1)
            have hab2 : b < a := by omega
            obtain ⟨a0, a1⟩ := ha
            obtain ⟨b0, b1⟩ := hb
            clear hf hr hab
            go_enter Try.func46, Try.ntmps46
            go_wp2_with fail
            refine (FF.out _).mono ?_
            rintro e w1 ⟨rfl, rfl⟩
            go_wp2_with fail
            refine (RE.out _).mono ?_
            rintro e w1 ⟨rfl, rfl⟩
            go_wp2_with fail
            refine (DA.out _).mono ?_
            rintro e w1 ⟨rfl, rfl⟩
            go_wp2_with fail
            refine (DB.out _).mono ?_
            rintro e w1 ⟨rfl, rfl⟩
            go_wp2_with fail
            go_ret2
            exact DaysOut.no HN.out (Below.refl _ _)
        · have DB := Lib.hid (Sets.impl_isDay b false (decide_eq_false hb))
          have HN := Lib.hid (show ¬ FdOk f r k a b from fun h => hb ⟨by have h1 := h.2.2.1; have h2 := h.2.2.2.2.1; omega, h.2.2.2.2.2.1⟩)
          clear hf hr hb ha
          go_enter Try.func46, Try.ntmps46
          go_wp2_with fail
          refine (FF.out _).mono ?_
          rintro e w1 ⟨rfl, rfl⟩
          go_wp2_with fail
          refine (RE.out _).mono ?_
          rintro e w1 ⟨rfl, rfl⟩
          go_wp2_with fail
          refine (DA.out _).mono ?_
          rintro e w1 ⟨rfl, rfl⟩
          go_wp2_with fail
          refine (DB.out _).mono ?_
          rintro e w1 ⟨rfl, rfl⟩
          go_wp2_with fail
          go_ret2
          exact DaysOut.no HN.out (Below.refl _ _)
      · have DA := Lib.hid (Sets.impl_isDay a false (decide_eq_false ha))
        have HN := Lib.hid (show ¬ FdOk f r k a b from fun h => ha ⟨h.2.2.1, h.2.2.2.1⟩)
        clear hf hr ha
        go_enter Try.func46, Try.ntmps46
        go_wp2_with fail
        refine (FF.out _).mono ?_
        rintro e w1 ⟨rfl, rfl⟩
        go_wp2_with fail
        refine (RE.out _).mono ?_
        rintro e w1 ⟨rfl, rfl⟩
        go_wp2_with fail
        refine (DA.out _).mono ?_
        rintro e w1 ⟨rfl, rfl⟩
        go_wp2_with fail
        go_ret2
        exact DaysOut.no HN.out (Below.refl _ _)
    · have RE := Lib.hid (impl_relation_no r k hr)
      have HN := Lib.hid (show ¬ FdOk f r k a b from fun h => hr h.2.1)
      clear hf hr
      go_enter Try.func46, Try.ntmps46
      go_wp2_with fail
      refine (FF.out _).mono ?_
      rintro e w1 ⟨rfl, rfl⟩
      go_wp2_with fail
      refine (RE.out _).mono ?_
      rintro e w1 ⟨rfl, rfl⟩
      go_wp2_with fail
      go_ret2
      exact DaysOut.no HN.out (Below.refl _ _)
  · have FF := Lib.hid (impl_feast_no f hf)
    have HN := Lib.hid (show ¬ FdOk f r k a b from fun h => hf h.1)
    clear hf
    go_enter Try.func46, Try.ntmps46
    go_wp2_with fail
    refine (FF.out _).mono ?_
    rintro e w1 ⟨rfl, rfl⟩
    go_wp2_with fail
    go_ret2
    exact DaysOut.no HN.out (Below.refl _ _)

end Go.Proofs.Ytegoiiconhgjbaa.Fea
