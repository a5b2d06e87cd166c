/- The walk of the law FnShifts. -/
import Derived.Test.YtigjpalbaapkkaaDrawL
import Derived.Test.YtigjpalbaapkkaaDice
import Derived.Test.YtigjpalbaapkkaaLike
import Derived.Test.YtigjpalbaapkkaaShift
import Derived.Test.YtigjpalbaapkkaaSetH
import Derived.Test.YtigjpalbaapkkaaSetN
namespace Go.Proofs.Ytigjpalbaapkkaa.Sets
open Go.RowKit

theorem i64_wf {k : Int} (h0 : -4000000000 ≤ k) (h1 : k ≤ 4000000000) : (Lit.int .i64 k).wf = true := by
  exact WalkArith.wf_i64 ⟨by omega, by omega⟩
theorem nth_pair (xs : L) (k : Int) : nthE xs k = 0 → setB xs = true ∧ nthIn xs k ∧ nthV xs k = nth xs k := by
  unfold nthE nthV
  intro h
  split at h
  · rename_i h1
    split at h
    · rename_i h2
      exact ⟨h1, h2, by rw [if_pos h1, if_pos h2]⟩
    · omega
  · omega
theorem nth_i64 (xs : L) (k : Int) : 0 ≤ nthV xs k ∧ nthV xs k ≤ 730499 := by
  unfold nthV
  split
  · rename_i h1
    split
    · rename_i h2
      obtain ⟨s, hs, h3, h4⟩ := nth_has (set_nf h1) h2.1 h2.2
      have := (set_nf h1).ok_of s hs
      unfold ok at this
      omega
    · omega
  · omega

theorem shift_pair (S : L) (y : Int) (h : shiftE S y = 0) : setB S = true ∧ shiftV S y = shift S y ∧ setB (shift S y) = true := by
  unfold shiftE at h
  split at h
  · rename_i h1
    split at h
    · rename_i h2
      refine ⟨h1, by unfold shiftV; rw [if_pos h1, if_pos h2], set_mk ?_ ((shift_nf (set_nf h1)).mono (by omega))⟩
      have := shift_length S y
      have := set_len h1
      omega
    · omega
  · omega
theorem shift_hasV (S : L) (y : Int) (s : Int × Int) (h : setB S = true) (hs : s ∈ S) (h0 : 0 ≤ s.1 + y) (h1 : s.1 + y ≤ 730499) : hasV (shift S y) (s.1 + y) = true ∧ hasE (shift S y) (s.1 + y) = 0 := by
  have ho := (set_nf h).ok_of s hs
  unfold ok at ho
  have hq : setB (shift S y) = true := by
    refine set_mk ?_ ((shift_nf (set_nf h)).mono (by omega))
    have := shift_length S y
    have := set_len h
    omega
  have hz : hasB (shift S y) (s.1 + y) = true := hasB_iff.2 (shift_has hs (by omega) h0 h1)
  refine ⟨?_, ?_⟩
  · unfold hasV
    rw [hq, hz, decide_eq_true (show 0 ≤ s.1 + y ∧ s.1 + y ≤ 730499 from ⟨h0, h1⟩)]
    rfl
  · unfold hasE
    rw [if_pos hq, if_pos ⟨h0, h1⟩]

set_option maxHeartbeats 8000000 in
set_option maxRecDepth 100000 in
theorem walk_FnShifts (A : Option Addr) (len cap : Nat) (zs : List Int) (W : World) (hrow : IsRow .u8 W A len cap zs) :
    Calls Try.prog 13 #[.slice A len cap] W (Bl true W) := by
  have hm : len ≤ maxLen := by
    rcases hrow with ⟨_, rfl, _⟩ | ⟨_, _, h1, h2, _⟩
    · exact Nat.zero_le _
    · omega
  have HM := Lib.hid hm
  have HR := Lib.hid hrow
  clear hrow hm
  by_cases hbig : 4096 < len
  · go_enter Try.func13, Try.ntmps13
    go_wp2_with fail
    refine (laws_big A len cap HM.out _).mono ?_
    rintro e w1 ⟨rfl, rfl⟩
    simp only [hbig, decide_true]
    go_wp2_with fail
    go_ret
    exact ⟨rfl, Below.refl _ _⟩
  go_enter Try.func13, Try.ntmps13
  go_wp2_with fail
  refine (laws_big A len cap HM.out _).mono ?_
  rintro e w1 ⟨rfl, rfl⟩
  simp only [hbig, decide_false]
  have kk : Below W.heap.size W W := Below.refl _ _
  go_wp2_with fail
  refine (spec_DrawShiftSet A len cap zs W _ HR.out kk).mono ?_
  rintro e w2 ⟨v, S, y, rfl, SmS, y0, y1, own, b⟩
  obtain ⟨AS, cS, rfl, r⟩ := own.form
  have CS := Lib.hid r.2.1
  have MS : Hid (S.length ≤ maxLen) := Lib.hid (by have := SmS.2; unfold maxLen; omega)
  replace kk := kk.trans (b.mono kk.size)
  have RS := r.rd
  clear own r
  have Fy := Lib.hid (show (Lit.int .i64 y).wf = true from i64_wf y0 y1)
  obtain ⟨V, E, HVE, HI, HS⟩ : ∃ (V : L) (E : Int), Hid (shiftV S y = V ∧ shiftE S y = E) ∧ Hid (∀ wx, Rd wx AS S.length S → Calls Try.prog 46 #[.slice AS S.length cS, .int .i64 y] wx (SetOut V E wx)) ∧ Hid (∀ wx, Rd wx AS S.length S → Calls Try.prog 47 #[.slice AS S.length cS, .int .i64 y] wx (SetOut V E wx)) :=
    ⟨_, _, Lib.hid ⟨rfl, rfl⟩, Lib.hid fun wx q => impl_ShiftSet AS _ cS S y MS.out Fy.out CS.out wx q, Lib.hid fun wx q => spec_ShiftSet AS _ cS S y MS.out Fy.out wx q⟩
  go_wp2_with fail
  refine (HI.out _ RS).mono ?_
  rintro e w3 ⟨AG, cG, rfl, q, b⟩
  replace kk := kk.trans (b.mono kk.size)
  replace RS := RS.below b
  have RG := q.rd
  clear q
  go_wp2_with fail
  refine (HS.out _ RS).mono ?_
  rintro e w4 ⟨AM, cM, rfl, q, b⟩
  replace kk := kk.trans (b.mono kk.size)
  replace RS := RS.below b
  replace RG := RG.below b
  have RM := q.rd
  clear q
  go_wp2_with fail
  refine (spec_DrawNthDay A len cap zs W _ HR.out kk).mono ?_
  rintro e w5 ⟨v, a, k, rfl, Sma, k0, k1, own, b⟩
  obtain ⟨Aa, ca, rfl, r⟩ := own.form
  have Ca := Lib.hid r.2.1
  have Ma : Hid (a.length ≤ maxLen) := Lib.hid (by have := Sma.2; unfold maxLen; omega)
  replace kk := kk.trans (b.mono kk.size)
  replace RS := RS.below b
  replace RG := RG.below b
  replace RM := RM.below b
  have Ra := r.rd
  clear own r
  have Fk := Lib.hid (show (Lit.int .i64 k).wf = true from i64_wf k0 k1)
  obtain ⟨N, E1, HN, HI1, HS1⟩ : ∃ (N E1 : Int), Hid (nthV a k = N ∧ nthE a k = E1) ∧ Hid (∀ wx, Rd wx Aa a.length a → Calls Try.prog 49 #[.slice Aa a.length ca, .int .i64 k] wx (Two N E1 wx)) ∧ Hid (∀ wx, Rd wx Aa a.length a → Calls Try.prog 50 #[.slice Aa a.length ca, .int .i64 k] wx (Two N E1 wx)) :=
    ⟨_, _, Lib.hid ⟨rfl, rfl⟩, Lib.hid fun wx q => impl_NthDay Aa _ ca a k Ma.out Fk.out wx q, Lib.hid fun wx q => spec_NthDay Aa _ ca a k Ma.out wx q⟩
  go_wp2_with fail
  refine (HI1.out _ Ra).mono ?_
  rintro e w6 ⟨rfl, b⟩
  replace kk := kk.trans (b.mono kk.size)
  replace RS := RS.below b
  replace RG := RG.below b
  replace RM := RM.below b
  replace Ra := Ra.below b
  go_wp2_with fail
  refine (HS1.out _ Ra).mono ?_
  rintro e w7 ⟨rfl, b⟩
  replace kk := kk.trans (b.mono kk.size)
  replace RS := RS.below b
  replace RG := RG.below b
  replace RM := RM.below b
  replace Ra := Ra.below b
  go_wp2_with fail
  refine (spec_DrawHasDay A len cap zs W _ HR.out kk).mono ?_
  rintro e w8 ⟨v, t, m, rfl, Smt, m0, m1, own, b⟩
  obtain ⟨At, ct, rfl, r⟩ := own.form
  have Ct := Lib.hid r.2.1
  have Mt : Hid (t.length ≤ maxLen) := Lib.hid (by have := Smt.2; unfold maxLen; omega)
  replace kk := kk.trans (b.mono kk.size)
  replace RS := RS.below b
  replace RG := RG.below b
  replace RM := RM.below b
  replace Ra := Ra.below b
  have Rt := r.rd
  clear own r
  have Fm := Lib.hid (show (Lit.int .i64 m).wf = true from i64_wf m0 m1)
  obtain ⟨B2, E2, HI2, HS2⟩ : ∃ (B2 : Bool) (E2 : Int), Hid (∀ wx, Rd wx At t.length t → Calls Try.prog 52 #[.slice At t.length ct, .int .i64 m] wx (TwoB B2 E2 wx)) ∧ Hid (∀ wx, Rd wx At t.length t → Calls Try.prog 53 #[.slice At t.length ct, .int .i64 m] wx (TwoB B2 E2 wx)) :=
    ⟨_, _, Lib.hid fun wx q => impl_HasDay At _ ct t m Mt.out wx q, Lib.hid fun wx q => spec_HasDay At _ ct t m Mt.out wx q⟩
  go_wp2_with fail
  refine (HI2.out _ Rt).mono ?_
  rintro e w9 ⟨rfl, b⟩
  replace kk := kk.trans (b.mono kk.size)
  replace RS := RS.below b
  replace RG := RG.below b
  replace RM := RM.below b
  replace Ra := Ra.below b
  replace Rt := Rt.below b
  go_wp2_with fail
  refine (HS2.out _ Rt).mono ?_
  rintro e w10 ⟨rfl, b⟩
  replace kk := kk.trans (b.mono kk.size)
  replace RS := RS.below b
  replace RG := RG.below b
  replace RM := RM.below b
  replace Ra := Ra.below b
  replace Rt := Rt.below b
  clear Rt
  go_wp2_with fail
  refine (spec_DrawCountDays A len cap zs W _ HR.out kk).mono ?_
  rintro e w11 ⟨v, u, rfl, Smu, own, b⟩
  obtain ⟨Au, cu, rfl, r⟩ := own.form
  have Cu := Lib.hid r.2.1
  have Mu : Hid (u.length ≤ maxLen) := Lib.hid (by have := Smu.2; unfold maxLen; omega)
  replace kk := kk.trans (b.mono kk.size)
  replace RS := RS.below b
  replace RG := RG.below b
  replace RM := RM.below b
  replace Ra := Ra.below b
  have Ru := r.rd
  clear own r
  obtain ⟨N3, E3, HI3, HS3⟩ : ∃ (N3 E3 : Int), Hid (∀ wx, Rd wx Au u.length u → Calls Try.prog 55 #[.slice Au u.length cu] wx (Two N3 E3 wx)) ∧ Hid (∀ wx, Rd wx Au u.length u → Calls Try.prog 56 #[.slice Au u.length cu] wx (Two N3 E3 wx)) :=
    ⟨_, _, Lib.hid fun wx q => impl_CountDays Au _ cu u Mu.out wx q, Lib.hid fun wx q => spec_CountDays Au _ cu u Mu.out wx q⟩
  go_wp2_with fail
  refine (HI3.out _ Ru).mono ?_
  rintro e w12 ⟨rfl, b⟩
  replace kk := kk.trans (b.mono kk.size)
  replace RS := RS.below b
  replace RG := RG.below b
  replace RM := RM.below b
  replace Ra := Ra.below b
  replace Ru := Ru.below b
  go_wp2_with fail
  refine (HS3.out _ Ru).mono ?_
  rintro e w13 ⟨rfl, b⟩
  replace kk := kk.trans (b.mono kk.size)
  replace RS := RS.below b
  replace RG := RG.below b
  replace RM := RM.below b
  replace Ra := Ra.below b
  replace Ru := Ru.below b
  clear Ru
  have HL : Hid (V.length ≤ 2000000) := Lib.hid (by rw [← HVE.out.1]; exact shiftV_len _ _)
  go_wp2_with fail
  refine (laws_like AG AM V.length cG cM V HL.out _ RG RM).mono ?_
  rintro e w14 ⟨rfl, b⟩
  replace kk := kk.trans (b.mono kk.size)
  replace RS := RS.below b
  replace RG := RG.below b
  replace RM := RM.below b
  replace Ra := Ra.below b
  clear RM
  by_cases hE1 : E1 = 0
  · obtain ⟨sa, hin, hv⟩ := nth_pair a k (HN.out.2.trans hE1)
    subst hE1
    have eN : N = nth a k := HN.out.1.symm.trans hv
    obtain ⟨N0, N1⟩ : 0 ≤ N ∧ N ≤ 730499 := by rw [← HN.out.1]; exact nth_i64 a k
    have IN := Lib.hid hin
    obtain ⟨k2, k3⟩ := hin
    have HH1 : Hid (∀ wx, Rd wx Aa a.length a → Calls Try.prog 52 #[.slice Aa a.length ca, .int .i64 N] wx (TwoB true 0 wx)) := Lib.hid fun wx q => by
      have qq := impl_HasDay Aa _ ca a N Ma.out wx q
      have e1 : hasV a N = true := by unfold hasV; rw [sa, decide_eq_true (show 0 ≤ N ∧ N ≤ 730499 from ⟨N0, N1⟩), eN, hasB_iff.2 (nth_has (set_nf sa) IN.out.1 IN.out.2)]; rfl
      have e2 : hasE a N = 0 := by unfold hasE; rw [if_pos sa, if_pos ⟨N0, N1⟩]
      rw [e1, e2] at qq
      exact qq
    have HH2 : Hid (0 < k → ∃ N2, N2 < N ∧ -1 ≤ N2 ∧ ∀ wx, Rd wx Aa a.length a → Calls Try.prog 49 #[.slice Aa a.length ca, .int .i64 (k - 1)] wx (Two N2 0 wx)) := Lib.hid fun hk0 => by
      have hin2 : nthIn a (k - 1) := ⟨by omega, by have := IN.out.2; omega⟩
      have e1 : nthV a (k - 1) = nth a (k - 1) := by unfold nthV; rw [if_pos sa, if_pos hin2]
      have e2 : nthE a (k - 1) = 0 := by unfold nthE; rw [if_pos sa, if_pos hin2]
      refine ⟨nthV a (k - 1), by rw [e1, eN]; exact nth_lt (set_nf sa) hk0 IN.out.2, by have := (nth_i64 a (k - 1)).1; omega, fun wx q => ?_⟩
      have qq := impl_NthDay Aa _ ca a (k - 1) Ma.out (i64_wf (by omega) (by omega)) wx q
      rw [e2] at qq
      exact qq
    clear hv eN sa IN k3
    go_wp2_with fail
    refine (HH1.out _ Ra).mono ?_
    rintro e wp ⟨rfl, b⟩
    replace kk := kk.trans (b.mono kk.size)
    replace RS := RS.below b
    replace RG := RG.below b
    replace Ra := Ra.below b
    by_cases hk0 : 0 < k
    · obtain ⟨N2, hN2, hN3, HH3⟩ := HH2.out hk0
      have HH4 := Lib.hid HH3
      clear HH3
      go_wp2_with fail
      refine (HH4.out _ Ra).mono ?_
      rintro e wq ⟨rfl, b⟩
      replace kk := kk.trans (b.mono kk.size)
      replace RS := RS.below b
      replace RG := RG.below b
      replace Ra := Ra.below b
      clear Ra
      by_cases hE : E = 0
      · obtain ⟨sS, eV, sV⟩ := shift_pair S y (HVE.out.2.trans hE)
        subst hE
        have eW : V = shift S y := HVE.out.1.symm.trans eV
        have SS := Lib.hid sS
        have SV : Hid (setB V = true) := Lib.hid (by rw [eW]; exact sV)
        have EW := Lib.hid eW
        have NV : Hid (V.length ≤ maxLen) := Lib.hid (by have := HL.out; unfold maxLen; omega)
        clear eV sS sV eW
        by_cases hl : S.length = 0
        · go_wp2_with fail
          go_ret
          exact ⟨rfl, kk⟩
        have hl1 : 1 ≤ S.length := by omega
        have hl2 : S.length ≤ 2000 := SmS.2
        go_wp2_with fail
        refine (laws_roll A len cap zs W _ HR.out kk).mono ?_
        rintro e wa ⟨g, rfl, hg, hd, b⟩
        have hb0 := Lib.hid b
        clear b
        go_wp2_with fail
        refine (laws_below A len cap zs W _ g S.length hd (by omega) (by omega)).mono ?_
        rintro e wb ⟨x, rfl, x0, x1, -, gr⟩
        have b := hb0.out.trans (only_below gr hg hb0.out.size)
        replace kk := kk.trans (b.mono kk.size)
        replace RS := RS.below b
        replace RG := RG.below b
        clear gr hd hb0 hg b
        obtain ⟨i, rfl⟩ := Int.eq_ofNat_of_zero_le x0
        have hi : i < S.length := by omega
        obtain ⟨gi, off, hl3, rfl, hgi, c0, c1⟩ := RS.at_ hi
        have Q : Hid (0 ≤ S[i].1 + y → S[i].1 + y ≤ 730499 → hasV (shift S y) (S[i].1 + y) = true ∧ hasE (shift S y) (S[i].1 + y) = 0) := Lib.hid (shift_hasV S y S[i] SS.out (List.getElem_mem hl3))
        have X0 := (SmS.at_ hl3).1
        have X1 := (SmS.at_ hl3).2.1
        generalize S[i].1 = X at c0 Q X0 X1
        clear RS c1 hgi x0 x1
        by_cases hlo : X + y < 0
        · go_wp2_with fail
          go_ret
          exact ⟨rfl, kk⟩
        by_cases hhi : 730499 < X + y
        · go_wp2_with fail
          go_ret
          exact ⟨rfl, kk⟩
        have HH : Hid (∀ wx, Rd wx AG V.length V → Calls Try.prog 52 #[.slice AG V.length cG, .int .i64 (X + y)] wx (TwoB true 0 wx)) := Lib.hid fun wx q => by
          have qq := impl_HasDay AG _ cG V (X + y) NV.out wx q
          rw [EW.out] at qq ⊢
          rw [(Q.out (by omega) (by omega)).1, (Q.out (by omega) (by omega)).2] at qq
          exact qq
        go_wp2_with fail
        refine (HH.out _ RG).mono ?_
        rintro e wc ⟨rfl, b⟩
        replace kk := kk.trans (b.mono kk.size)
        replace RG := RG.below b
        go_wp2_with fail
        refine (impl_IsSetB AG _ cG V true SV.out NV.out _ RG).mono ?_
        rintro e wd ⟨rfl, b⟩
        replace kk := kk.trans (b.mono kk.size)
        go_wp2_with fail
        go_ret
        exact ⟨rfl, kk⟩
      · go_wp2_with fail
        go_ret
        exact ⟨rfl, kk⟩
    · clear Ra
      by_cases hE : E = 0
      · obtain ⟨sS, eV, sV⟩ := shift_pair S y (HVE.out.2.trans hE)
        subst hE
        have eW : V = shift S y := HVE.out.1.symm.trans eV
        have SS := Lib.hid sS
        have SV : Hid (setB V = true) := Lib.hid (by rw [eW]; exact sV)
        have EW := Lib.hid eW
        have NV : Hid (V.length ≤ maxLen) := Lib.hid (by have := HL.out; unfold maxLen; omega)
        clear eV sS sV eW
        by_cases hl : S.length = 0
        · go_wp2_with fail
          go_ret
          exact ⟨rfl, kk⟩
        have hl1 : 1 ≤ S.length := by omega
        have hl2 : S.length ≤ 2000 := SmS.2
        go_wp2_with fail
        refine (laws_roll A len cap zs W _ HR.out kk).mono ?_
        rintro e wa ⟨g, rfl, hg, hd, b⟩
        have hb0 := Lib.hid b
        clear b
        go_wp2_with fail
        refine (laws_below A len cap zs W _ g S.length hd (by omega) (by omega)).mono ?_
        rintro e wb ⟨x, rfl, x0, x1, -, gr⟩
        have b := hb0.out.trans (only_below gr hg hb0.out.size)
        replace kk := kk.trans (b.mono kk.size)
        replace RS := RS.below b
        replace RG := RG.below b
        clear gr hd hb0 hg b
        obtain ⟨i, rfl⟩ := Int.eq_ofNat_of_zero_le x0
        have hi : i < S.length := by omega
        obtain ⟨gi, off, hl3, rfl, hgi, c0, c1⟩ := RS.at_ hi
        have Q : Hid (0 ≤ S[i].1 + y → S[i].1 + y ≤ 730499 → hasV (shift S y) (S[i].1 + y) = true ∧ hasE (shift S y) (S[i].1 + y) = 0) := Lib.hid (shift_hasV S y S[i] SS.out (List.getElem_mem hl3))
        have X0 := (SmS.at_ hl3).1
        have X1 := (SmS.at_ hl3).2.1
        generalize S[i].1 = X at c0 Q X0 X1
        clear RS c1 hgi x0 x1
        by_cases hlo : X + y < 0
        · go_wp2_with fail
          go_ret
          exact ⟨rfl, kk⟩
        by_cases hhi : 730499 < X + y
        · go_wp2_with fail
          go_ret
          exact ⟨rfl, kk⟩
        have HH : Hid (∀ wx, Rd wx AG V.length V → Calls Try.prog 52 #[.slice AG V.length cG, .int .i64 (X + y)] wx (TwoB true 0 wx)) := Lib.hid fun wx q => by
          have qq := impl_HasDay AG _ cG V (X + y) NV.out wx q
          rw [EW.out] at qq ⊢
          rw [(Q.out (by omega) (by omega)).1, (Q.out (by omega) (by omega)).2] at qq
          exact qq
        go_wp2_with fail
        refine (HH.out _ RG).mono ?_
        rintro e wc ⟨rfl, b⟩
        replace kk := kk.trans (b.mono kk.size)
        replace RG := RG.below b
        go_wp2_with fail
        refine (impl_IsSetB AG _ cG V true SV.out NV.out _ RG).mono ?_
        rintro e wd ⟨rfl, b⟩
        replace kk := kk.trans (b.mono kk.size)
        go_wp2_with fail
        go_ret
        exact ⟨rfl, kk⟩
      · go_wp2_with fail
        go_ret
        exact ⟨rfl, kk⟩
  · clear Ra
    by_cases hE : E = 0
    · obtain ⟨sS, eV, sV⟩ := shift_pair S y (HVE.out.2.trans hE)
      subst hE
      have eW : V = shift S y := HVE.out.1.symm.trans eV
      have SS := Lib.hid sS
      have SV : Hid (setB V = true) := Lib.hid (by rw [eW]; exact sV)
      have EW := Lib.hid eW
      have NV : Hid (V.length ≤ maxLen) := Lib.hid (by have := HL.out; unfold maxLen; omega)
      clear eV sS sV eW
      by_cases hl : S.length = 0
      · go_wp2_with fail
        go_ret
        exact ⟨rfl, kk⟩
      have hl1 : 1 ≤ S.length := by omega
      have hl2 : S.length ≤ 2000 := SmS.2
      go_wp2_with fail
      refine (laws_roll A len cap zs W _ HR.out kk).mono ?_
      rintro e wa ⟨g, rfl, hg, hd, b⟩
      have hb0 := Lib.hid b
      clear b
      go_wp2_with fail
      refine (laws_below A len cap zs W _ g S.length hd (by omega) (by omega)).mono ?_
      rintro e wb ⟨x, rfl, x0, x1, -, gr⟩
      have b := hb0.out.trans (only_below gr hg hb0.out.size)
      replace kk := kk.trans (b.mono kk.size)
      replace RS := RS.below b
      replace RG := RG.below b
      clear gr hd hb0 hg b
      obtain ⟨i, rfl⟩ := Int.eq_ofNat_of_zero_le x0
      have hi : i < S.length := by omega
      obtain ⟨gi, off, hl3, rfl, hgi, c0, c1⟩ := RS.at_ hi
      have Q : Hid (0 ≤ S[i].1 + y → S[i].1 + y ≤ 730499 → hasV (shift S y) (S[i].1 + y) = true ∧ hasE (shift S y) (S[i].1 + y) = 0) := Lib.hid (shift_hasV S y S[i] SS.out (List.getElem_mem hl3))
      have X0 := (SmS.at_ hl3).1
      have X1 := (SmS.at_ hl3).2.1
      generalize S[i].1 = X at c0 Q X0 X1
      clear RS c1 hgi x0 x1
      by_cases hlo : X + y < 0
      · go_wp2_with fail
        go_ret
        exact ⟨rfl, kk⟩
      by_cases hhi : 730499 < X + y
      · go_wp2_with fail
        go_ret
        exact ⟨rfl, kk⟩
      have HH : Hid (∀ wx, Rd wx AG V.length V → Calls Try.prog 52 #[.slice AG V.length cG, .int .i64 (X + y)] wx (TwoB true 0 wx)) := Lib.hid fun wx q => by
        have qq := impl_HasDay AG _ cG V (X + y) NV.out wx q
        rw [EW.out] at qq ⊢
        rw [(Q.out (by omega) (by omega)).1, (Q.out (by omega) (by omega)).2] at qq
        exact qq
      go_wp2_with fail
      refine (HH.out _ RG).mono ?_
      rintro e wc ⟨rfl, b⟩
      replace kk := kk.trans (b.mono kk.size)
      replace RG := RG.below b
      go_wp2_with fail
      refine (impl_IsSetB AG _ cG V true SV.out NV.out _ RG).mono ?_
      rintro e wd ⟨rfl, b⟩
      replace kk := kk.trans (b.mono kk.size)
      go_wp2_with fail
      go_ret
      exact ⟨rfl, kk⟩
    · go_wp2_with fail
      go_ret
      exact ⟨rfl, kk⟩

end Go.Proofs.Ytigjpalbaapkkaa.Sets
