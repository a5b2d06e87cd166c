/- The contract of impl's DaysWith. -/
import Derived.Test.YtigjpalbaapkkaaStyIe
namespace Go.Proofs.Ytigjpalbaapkkaa.Sty
open Go.RowKit
open Go.Proofs.Ytigjpalbaapkkaa.Eas (isY It)
open Go.Proofs.Ytigjpalbaapkkaa.Fea (yr yr_isY isDay)
open Go.Proofs.Ytigjpalbaapkkaa.Ints (Rd Row Own append_int)
open Go.Proofs.Ytigjpalbaapkkaa.Sets (impl_spanHas)

set_option maxHeartbeats 400000 in
theorem impl_leapDay (m d : Int) (w : World) : Calls Try.prog 84 #[.int .i64 m, .int .i64 d] w (Bl (vb false 4 m d) w) := by
  have V := Lib.hid (impl_IsOldDate 4 m d)
  go_enter Try.func84, Try.ntmps84
  go_wp2_with fail
  refine (V.out _).mono ?_
  rintro e w1 ⟨rfl, hb⟩
  go_wp2_with fail
  go_ret
  exact ⟨rfl, hb⟩

/-- The state of the loop over the years. -/
def DwL (m d a b Y0 : Int) (w0 : World) (k : Nat) (v i : Value) (wr : World) : Prop :=
  ∃ (j : Nat) (acc : List Int), i = .int .i64 (Y0 + j) ∧ k = 3 - j ∧ j ≤ 3 ∧ Hid (acc = dd m d a b Y0 j) ∧ acc.length ≤ j ∧ Own wr w0.heap.size v acc ∧ Below w0.heap.size w0 wr

set_option maxRecDepth 100000 in
set_option maxHeartbeats 4000000 in
theorem impl_DaysWith (s y m d : Int) (w : World) : Calls Try.prog 34 #[.int .i64 s, .int .i64 y, .int .i64 m, .int .i64 d] w (DwO s y m d w) := by
  have V := Lib.hid (impl_leapDay m d)
  by_cases hs : isS s
  · have S := Lib.hid (impl_style_yes s hs)
    by_cases hy : isT y
    · have Y := Lib.hid (impl_syear_yes y hy)
      by_cases hv : Cal.valid false 4 m d
      · rw [vb_true hv] at V
        have R := Lib.hid impl_rules
        have L := Lib.hid (fun (w : World) (b : Nat) (h : StMap w b) => h.atS s hs)
        have P := Lib.hid (impl_rspan s hs y hy)
        obtain ⟨s1, s2, s3⟩ := span_years s y
        have HA0 := Lib.hid (dd_ans (show dwOk s y m d from ⟨⟨hs, hy⟩, hv⟩) s1 s2 3 (by omega) (by omega))
        obtain ⟨y0, y1⟩ := hy
        clear hv hs s1 s2 s3
        generalize sV s = u at *
        generalize bg s y = a at *
        generalize bg s (y + 1) - 1 = b at *
        obtain ⟨Y0, hY0⟩ : ∃ Y0, y - 1 = Y0 := ⟨_, rfl⟩
        rw [hY0] at HA0
        go_enter Try.func34, Try.ntmps34
        go_wp2_with fail
        refine (S.out _).mono ?_
        rintro e w1 ⟨rfl, rfl⟩
        go_wp2_with fail
        refine (Y.out _).mono ?_
        rintro e w1 ⟨rfl, rfl⟩
        go_wp2_with fail
        refine (V.out _).mono ?_
        rintro e w1 ⟨rfl, hb1⟩
        go_wp2_with fail
        refine (R.out _).mono ?_
        rintro e w2 ⟨B, rfl, hm, hB, hb2⟩
        have hl := L.out _ _ hm
        clear hm hB
        go_wp2_with fail
        refine (P.out _).mono ?_
        rintro e w3 ⟨rfl, hb3⟩
        have hb4 := hb1.trans (hb2.mono hb1.size)
        have hb5 := hb4.trans (hb3.mono hb4.size)
        have hb6 := hb5.alloc hb5.size (.cells #[.int .i64 a, .int .i64 b] 40)
        have BK := Blk.new w3 40 #[.int .i64 a, .int .i64 b]
        have hlt0 : w3.heap.size < (w3.alloc (.cells #[.int .i64 a, .int .i64 b] 40)).heap.size := by simp
        clear hl hb1 hb2 hb3 hb4 hb5 L P R S V Y
        go_wp2_with fail
        generalize w3.alloc (.cells #[.int .i64 a, .int .i64 b] 40) = w0 at *
        generalize w3.heap.size = g at *
        go_loopg [11, 12] 3 (fun k v i wr => DwL m d a b Y0 w0 k v i wr)
        case atStart => exact ⟨0, [], by simp [← hY0], by omega, by omega, Lib.hid rfl, by simp, Own.nil w0 w0.heap.size, Below.refl _ _⟩
        case round =>
          obtain ⟨j, acc, rfl, hk, hj, HA, hl, hown, hb1⟩ := hrel
          subst hk
          have BK1 := BK.below hb1 hlt0
          have k0 : wr.cell? ⟨g, 0, none⟩ = some (.int .i64 a) := BK1.cell 0
          have k1 : wr.cell? ⟨g, 1, none⟩ = some (.int .i64 b) := BK1.cell 1
          by_cases hlt : j < 3
          · have HAdd := HA
            obtain ⟨Z, hZ⟩ : ∃ Z, Y0 + (j : Int) = Z := ⟨_, rfl⟩
            have hZ1 : 1 ≤ Z := by omega
            have hZ2 : Z ≤ 2000 := by omega
            have hZ3 : Z ≤ y + 1 := by omega
            by_cases hv : Cal.valid false Z m d
            · obtain ⟨x, hx⟩ : ∃ x, Cal.num false Z m d = x := ⟨_, rfl⟩
              have NU := Lib.hid (show ∀ w, Calls Try.prog 85 #[.agg #[.int .i64 Z, .int .i64 m, .int .i64 d], .int .i64 0] w (Two (Cal.num false Z m d) 0 w) from impl_number false Z m d hv)
              rw [hx] at NU
              by_cases hin : a ≤ x ∧ x ≤ b
              · have I := Lib.hid (impl_spanHas a b x true (decide_eq_true hin))
                have HN := Lib.hid (dd_yes HA.out (by rw [hZ]; exact hv) (by rw [hZ]; exact hx) hin)
                rw [hZ]
                clear hv hx hin HA HAdd BK1
                go_wp2_with fail
                refine (NU.out _).mono ?_
                rintro e w5 ⟨rfl, hb5⟩
                have c0 := Sets.cell_keep hb5 k0
                have c1 := Sets.cell_keep hb5 k1
                have own5 := hown.below hb5
                have hb7 := hb1.trans (hb5.mono hb1.size)
                clear hown hb1 hb5 k0 k1
                go_wp2_with fail
                refine (I.out _).mono ?_
                rintro e w6 ⟨rfl, hb6'⟩
                have own6 := own5.below hb6'
                have hb8 := hb7.trans (hb6'.mono hb7.size)
                clear own5 hb7 hb6' c0 c1
                go_wp2_with (at_builtin; refine append_int hb8 own6 (by omega) rfl (.tmp 57) (.tmp 59) rfl rfl rfl ?_)
                intro v6 w8 own8 hb9
                clear own6 hb8
                go_wp2_with fail
                go_roundg (3 - (j + 1))
                case measure => omega
                case rel => exact ⟨j + 1, _, by rw [← hZ]; push_cast; rw [Int.add_assoc], by omega, by omega, HN, by simp; omega, own8, hb9⟩
              · have I := Lib.hid (impl_spanHas a b x false (decide_eq_false hin))
                have HN := Lib.hid (dd_no (a := a) (b := b) HA.out (by rw [hZ, hx]; exact fun h => hin h.2))
                rw [hZ]
                clear hv hx hin HA HAdd BK1
                go_wp2_with fail
                refine (NU.out _).mono ?_
                rintro e w5 ⟨rfl, hb5⟩
                have c0 := Sets.cell_keep hb5 k0
                have c1 := Sets.cell_keep hb5 k1
                have own5 := hown.below hb5
                have hb7 := hb1.trans (hb5.mono hb1.size)
                clear hown hb1 hb5 k0 k1
                go_wp2_with fail
                refine (I.out _).mono ?_
                rintro e w6 ⟨rfl, hb6'⟩
                have own6 := own5.below hb6'
                have hb8 := hb7.trans (hb6'.mono hb7.size)
                clear own5 hb7 hb6' c0 c1
                go_wp2_with fail
                go_roundg (3 - (j + 1))
                case measure => omega
                case rel => exact ⟨j + 1, _, by rw [← hZ]; push_cast; rw [Int.add_assoc], by omega, by omega, HN, by omega, own6, hb8⟩
            · have NU := Lib.hid (show ∀ w, Calls Try.prog 85 #[.agg #[.int .i64 Z, .int .i64 m, .int .i64 d], .int .i64 0] w (Two 0 1 w) from impl_number_no false Z m d (vb_false hv))
              have HN := Lib.hid (dd_no (a := a) (b := b) HA.out (by rw [hZ]; exact fun h => hv h.1))
              rw [hZ]
              clear hv HA HAdd BK1
              go_wp2_with fail
              refine (NU.out _).mono ?_
              rintro e w5 ⟨rfl, hb5⟩
              have own5 := hown.below hb5
              have hb7 := hb1.trans (hb5.mono hb1.size)
              clear hown hb1 hb5 k0 k1
              go_wp2_with fail
              go_roundg (3 - (j + 1))
              case measure => omega
              case rel => exact ⟨j + 1, _, by rw [← hZ]; push_cast; rw [Int.add_assoc], by omega, by omega, HN, by omega, own5, hb7⟩
          · have e : j = 3 := by omega
            have HV : DwAns s y m d acc 0 := by
              have h := HA.out
              rw [e] at h
              rw [h]
              exact HA0.out
            have hge : y + 1 < Y0 + (j : Int) := by omega
            clear HA BK1 HA0 e
            go_wp2_with fail
            go_ret2
            exact ⟨acc, 0, HV, Fea.IntsOut.of (hown.mono hb6.size) (hb6.trans (hb1.mono hb6.size))⟩
      · rw [vb_false hv] at V
        have HN := Lib.hid (show ¬ dwOk s y m d from fun h => hv h.2)
        clear hv hs hy
        go_enter Try.func34, Try.ntmps34
        go_wp2_with fail
        refine (S.out _).mono ?_
        rintro e w1 ⟨rfl, rfl⟩
        go_wp2_with fail
        refine (Y.out _).mono ?_
        rintro e w1 ⟨rfl, rfl⟩
        go_wp2_with fail
        refine (V.out _).mono ?_
        rintro e w1 ⟨rfl, hb1⟩
        go_wp2_with fail
        go_ret2
        exact DwO.no HN.out hb1
    · have Y := Lib.hid (impl_syear_no y hy)
      have HN := Lib.hid (show ¬ dwOk s y m d from fun h => hy h.1.2)
      clear hs hy
      go_enter Try.func34, Try.ntmps34
      go_wp2_with fail
      refine (S.out _).mono ?_
      rintro e w1 ⟨rfl, rfl⟩
      go_wp2_with fail
      refine (Y.out _).mono ?_
      rintro e w1 ⟨rfl, rfl⟩
      go_wp2_with fail
      go_ret2
      exact DwO.no HN.out (Below.refl _ _)
  · have S := Lib.hid (impl_style_no s hs)
    have HN := Lib.hid (show ¬ dwOk s y m d from fun h => hs h.1.1)
    clear hs
    go_enter Try.func34, Try.ntmps34
    go_wp2_with fail
    refine (S.out _).mono ?_
    rintro e w1 ⟨rfl, rfl⟩
    go_wp2_with fail
    go_ret2
    exact DwO.no HN.out (Below.refl _ _)

end Go.Proofs.Ytigjpalbaapkkaa.Sty
