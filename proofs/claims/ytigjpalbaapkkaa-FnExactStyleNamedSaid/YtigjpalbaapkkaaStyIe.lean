/- Contracts of impl's StyleName, StyleNamed, StylesFor, DaysWith. -/
import Derived.Test.YtigjpalbaapkkaaStyId
namespace Go.Proofs.Ytigjpalbaapkkaa.Sty
open Go.RowKit
open Go.Proofs.Ytigjpalbaapkkaa.Eas (isY It)
open Go.Proofs.Ytigjpalbaapkkaa.Fea (yr yr_isY bs bs_toList isDay)
open Go.Proofs.Ytigjpalbaapkkaa.Ints (Rd Row Own append_int)
open Go.Proofs.Ytigjpalbaapkkaa.Sets (impl_spanHas)

theorem st_field (s : ByteArray) (x : Value) (w : World) : (Instr.field 83 (.agg #[.string s, x]) 0).run Try.prog w = .ok (.string s) w := by kernel_rfl

theorem impl_StyleName (f : Int) (w : World) : Calls Try.prog 26 #[.int .i64 f] w (StO (snL f) w) := by
  have R := Lib.hid impl_rules
  have hfl := st_field
  by_cases hf : isS f
  · have L := Lib.hid (fun (w : World) (b : Nat) (h : StMap w b) => h.atS f hf)
    have hv : sV f = .agg #[.string (bs (snL f)), .func (.func (stF f.toNat)) #[] #[]] := by
      unfold sV stV
      rw [show ((f.toNat : Nat) : Int) = f by have := hf.1; omega]
    unfold StO
    rw [hv] at L
    generalize bs (snL f) = s at *
    generalize stF f.toNat = g at *
    clear hf hv
    go_enter Try.func26, Try.ntmps26
    go_wp2_with fail
    refine (R.out _).mono ?_
    rintro e w1 ⟨B, rfl, hm, hB, hb⟩
    have hl := L.out _ _ hm
    clear hm
    go_wp2_with fail
    go_ret
    exact ⟨rfl, hb⟩
  · have L := Lib.hid (fun (w : World) (b : Nat) (h : StMap w b) => h.no f hf)
    have HL := Lib.hid (snL_no f hf)
    clear hf
    go_enter Try.func26, Try.ntmps26
    go_wp2_with fail
    refine (R.out _).mono ?_
    rintro e w1 ⟨B, rfl, hm, hB, hb⟩
    have hl := L.out _ _ hm
    clear hm
    go_wp2_with fail
    go_ret
    exact ⟨ret_bsS HL.out.symm, hb⟩

set_option maxHeartbeats 1000000 in
theorem impl_StyleNamed (s : ByteArray) (w : World) : Calls Try.prog 27 #[.string s] w (SnO s.toList w) := by
  have R := Lib.hid impl_rules
  have hfl := st_field
  go_enter Try.func27, Try.ntmps27
  go_wp2_with fail
  refine (R.out _).mono ?_
  rintro e w1 ⟨B, rfl, hm0, hB, hb0⟩
  clear R
  go_wp2_with fail
  go_loopg [7] 7 (fun m i wr => ∃ k : Nat, k ≤ 7 ∧ m = 7 - k ∧ i = .int .i64 k ∧ Hid (∀ i : Nat, i < k → snms[i]? ≠ some s.toList) ∧ Below w1.heap.size w1 wr)
  case atStart => exact ⟨0, by omega, by omega, rfl, Lib.hid (fun i h => by omega), Below.refl _ _⟩
  case round =>
    obtain ⟨k, hk, hm, rfl, HK, hb⟩ := hrel
    subst hm
    by_cases hlt : k < 7
    · have ht := snL_get k hlt
      have hix := (hm0.below hb hm0.lt).at_ k hlt
      unfold stV at hix
      have et := bs_toList (snL (k : Int))
      generalize snL (k : Int) = t at ht hix et
      generalize stF k = g at hix
      have hlt2 : (k : Int) < 7 := by omega
      by_cases hs : t = s.toList
      · have e : ((bs t).toList == s.toList) = true := by rw [et, hs]; simp
        have HN := Lib.hid (show SNamed s.toList k true from ⟨k, .inl ⟨k, rfl, hs ▸ ht, HK.out⟩, .inl ⟨by omega, rfl, rfl⟩⟩)
        clear ht hs et HK hm0
        generalize bs t = t at *
        go_wp2_with fail
        go_ret2
        exact ⟨k, true, HN, rfl, hb0.trans (hb.mono hb0.size)⟩
      · have e : ((bs t).toList == s.toList) = false := by rw [et]; simpa using hs
        have HN : Hid (∀ i : Nat, i < k + 1 → snms[i]? ≠ some s.toList) := fun i hi ei => by
          by_cases h : i = k
          · subst h; rw [ht] at ei; injection ei with ei; exact hs ei
          · exact HK.out i (by omega) ei
        clear ht hs et HK hm0
        generalize bs t = t at *
        go_wp2_with fail
        go_roundg (7 - (k + 1))
        case measure => omega
        case rel => exact ⟨k + 1, by omega, by omega, by go_num, HN, hb⟩
    · have HN := Lib.hid (show SNamed s.toList 0 false from ⟨-1, .inr ⟨rfl, fun i e => by
        by_cases h : i < k
        · exact HK.out i h e
        · rw [List.getElem?_eq_none (by rw [snms_len]; omega)] at e; cases e⟩, .inr ⟨rfl, rfl, rfl⟩⟩)
      have hge : (7 : Int) ≤ k := by omega
      clear HK hm0
      go_wp2_with fail
      go_ret2
      exact ⟨0, false, HN, rfl, hb0.trans (hb.mono hb0.size)⟩

set_option maxRecDepth 100000 in
set_option maxHeartbeats 4000000 in
theorem impl_StylesFor_yes (n y : Int) (h : sfOk n y) (w : World) : Calls Try.prog 20 #[.int .i64 n, .int .i64 y] w (Fea.IntsOut (sf n y 7) 0 w) := by
  obtain ⟨⟨n0, n1⟩, hy⟩ := h
  have D := Lib.hid (impl_day_yes n ⟨n0, n1⟩)
  have Y := Lib.hid (impl_syear_yes y hy)
  have R := Lib.hid impl_rules
  have HT := Lib.hid hy
  clear hy
  go_enter Try.func20, Try.ntmps20
  go_wp2_with fail
  refine (D.out _).mono ?_
  rintro e w1 ⟨rfl, rfl⟩
  go_wp2_with fail
  refine (Y.out _).mono ?_
  rintro e w1 ⟨rfl, rfl⟩
  go_wp2_with fail
  refine (R.out _).mono ?_
  rintro e w1 ⟨B, rfl, hm0, hB, hb0⟩
  clear R
  go_wp2_with fail
  go_loopg [7, 18] 7 (fun k v i wr => SfL n y w1 k v i wr)
  case atStart => exact ⟨0, [], rfl, by omega, by omega, Lib.hid rfl, by simp, Own.nil w1 w1.heap.size, Below.refl _ _⟩
  case round =>
    obtain ⟨j, acc, rfl, hk, hj, HA, hl, hown, hb1⟩ := hrel
    subst hk
    by_cases hlt : j < 7
    · have P := Lib.hid (impl_rspan_nat j hlt y HT.out)
      have hix := (hm0.below hb1 hm0.lt).at_ j hlt
      have HC : Hid ((decide (bg j y ≤ n ∧ n ≤ bg j (y + 1) - 1) = true ∧ OnIs j n y) ∨ (decide (bg j y ≤ n ∧ n ≤ bg j (y + 1) - 1) = false ∧ ¬ OnIs j n y)) := by
        by_cases hin : bg j y ≤ n ∧ n ≤ bg j (y + 1) - 1
        · exact .inl ⟨decide_eq_true hin, HT.out, hin.1, by omega⟩
        · exact .inr ⟨decide_eq_false hin, fun h => hin ⟨h.2.1, by have := h.2.2; omega⟩⟩
      generalize stV j = u at hix P
      generalize bg j y = a at P HC
      generalize bg j (y + 1) - 1 = b at P HC
      have hj6 : (j : Int) < 7 := by omega
      rcases HC.out with ⟨hin, ho⟩ | ⟨hin, ho⟩
      · have I := Lib.hid (impl_spanHas a b n true hin)
        have HN : Hid (acc ++ [(j : Int)] = sf n y (j + 1)) := Lib.hid (by rw [HA.out, sf, if_pos ho])
        clear HC HA ho hin
        go_wp2_with fail
        refine (P.out _).mono ?_
        rintro e w2 ⟨rfl, hb2⟩
        go_wp2_with fail
        refine (I.out _).mono ?_
        rintro e w3 ⟨rfl, hb3⟩
        have own2 := (hown.below hb2).below hb3
        have hb4 := hb1.trans (hb2.mono hb1.size)
        have hb5 := hb4.trans (hb3.mono hb4.size)
        clear hown hb1 hb2 hb3 hb4 hix
        go_wp2_with (at_builtin; refine append_int hb5 own2 (by omega) rfl (.tmp 28) (.tmp 30) rfl rfl rfl ?_)
        intro v6 w6 own6 hb7
        clear own2 hb5
        go_wp2_with fail
        go_roundg (7 - (j + 1))
        case measure => omega
        case rel => exact ⟨j + 1, _, by go_num, by omega, by omega, HN, by simp; omega, own6, hb7⟩
      · have I := Lib.hid (impl_spanHas a b n false hin)
        have HN : Hid (acc = sf n y (j + 1)) := Lib.hid (by rw [HA.out, sf, if_neg ho, List.append_nil])
        clear HC HA ho hin
        go_wp2_with fail
        refine (P.out _).mono ?_
        rintro e w2 ⟨rfl, hb2⟩
        go_wp2_with fail
        refine (I.out _).mono ?_
        rintro e w3 ⟨rfl, hb3⟩
        have own2 := (hown.below hb2).below hb3
        have hb4 := hb1.trans (hb2.mono hb1.size)
        have hb5 := hb4.trans (hb3.mono hb4.size)
        clear hown hb1 hb2 hb3 hb4 hix
        go_wp2_with fail
        go_roundg (7 - (j + 1))
        case measure => omega
        case rel => exact ⟨j + 1, _, by go_num, by omega, by omega, HN, by omega, own2, hb5⟩
    · have HV : acc = sf n y 7 := by
        have e : j = 7 := by omega
        have h := HA.out
        rwa [e] at h
      subst HV
      have hge : (7 : Int) ≤ j := by omega
      clear HA hm0
      go_wp2_with fail
      go_ret2
      exact Fea.IntsOut.of (hown.mono hb0.size) (hb0.trans (hb1.mono hb0.size))

theorem impl_StylesFor (n y : Int) (w : World) : Calls Try.prog 20 #[.int .i64 n, .int .i64 y] w (Fea.IntsOut (sfL n y) (sfE n y) w) := by
  by_cases h : sfOk n y
  · rw [show sfL n y = sf n y 7 from if_pos h, show sfE n y = 0 from if_pos h]
    exact impl_StylesFor_yes n y h w
  · rw [show sfL n y = [] from if_neg h, show sfE n y = 2 from if_neg h]
    by_cases hn : isDay n
    · have D := Lib.hid (impl_day_yes n hn)
      have Y := Lib.hid (impl_syear_no y (fun k => h ⟨hn, k⟩))
      clear h hn
      go_enter Try.func20, Try.ntmps20
      go_wp2_with fail
      refine (D.out _).mono ?_
      rintro e w1 ⟨rfl, rfl⟩
      go_wp2_with fail
      refine (Y.out _).mono ?_
      rintro e w1 ⟨rfl, rfl⟩
      go_wp2_with fail
      go_ret2
      exact Fea.IntsOut.empty (Below.refl _ _)
    · have D := Lib.hid (impl_day_no n hn)
      clear h hn
      go_enter Try.func20, Try.ntmps20
      go_wp2_with fail
      refine (D.out _).mono ?_
      rintro e w1 ⟨rfl, rfl⟩
      go_wp2_with fail
      go_ret2
      exact Fea.IntsOut.empty (Below.refl _ _)

end Go.Proofs.Ytigjpalbaapkkaa.Sty
