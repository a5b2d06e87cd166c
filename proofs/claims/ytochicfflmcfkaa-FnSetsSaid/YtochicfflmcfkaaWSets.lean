/- The walk of the law FnSets. -/
import Derived.Test.YtochicfflmcfkaaPair
import Derived.Test.YtochicfflmcfkaaLike
import Derived.Test.YtochicfflmcfkaaRest
namespace Go.Proofs.Ytochicfflmcfkaa.Sets
open Go.RowKit

theorem res_pair (k : Bool) (xs : L) (h : resE k xs = 0) : k = true ∧ resV k xs = xs ∧ xs.length ≤ 300 := by
  unfold resE at h
  split at h
  · rename_i h1
    split at h
    · rename_i h2
      exact ⟨h1, by unfold resV; rw [if_pos h1, if_pos h2], h2⟩
    · omega
  · omega

set_option maxHeartbeats 8000000 in
set_option maxRecDepth 100000 in
theorem walk_FnSets (A : Option Addr) (len cap : Nat) (zs : List Int) (W : World) (hrow : IsRow .u8 W A len cap zs) :
    Calls Try.prog 3 #[.slice A len cap] W (Bl true W) := by
  have hm : len ≤ maxLen := by
    rcases hrow with ⟨_, rfl, _⟩ | ⟨_, _, h1, h2, _⟩
    · exact Nat.zero_le _
    · omega
  have HM := Lib.hid hm
  have HR := Lib.hid hrow
  clear hrow hm
  by_cases hbig : 4096 < len
  · go_enter Try.func3, Try.ntmps3
    go_wp2_with fail
    refine (laws_big A len cap HM.out _).mono ?_
    rintro e w1 ⟨rfl, rfl⟩
    simp only [hbig, decide_true]
    go_wp2_with fail
    go_ret
    exact ⟨rfl, Below.refl _ _⟩
  go_enter Try.func3, Try.ntmps3
  go_wp2_with fail
  refine (laws_big A len cap HM.out _).mono ?_
  rintro e w1 ⟨rfl, rfl⟩
  simp only [hbig, decide_false]
  have kk : Below W.heap.size W W := Below.refl _ _
  go_wp2_with fail
  refine (spec_DrawUniteSets A len cap zs W _ HR.out kk).mono ?_
  rintro e w2 ⟨v, v', S, T, rfl, SmS, SmT, own, own2, b⟩
  obtain ⟨AS, cS, rfl, r⟩ := own.form
  obtain ⟨AT, cT, rfl, r2⟩ := own2.form
  have CS := Lib.hid r.2.1
  have CT := Lib.hid r2.2.1
  have MS : Hid (S.length ≤ maxLen) := Lib.hid (by have := SmS.2; unfold maxLen; omega)
  have MT : Hid (T.length ≤ maxLen) := Lib.hid (by have := SmT.2; unfold maxLen; omega)
  have RS := r.rd
  have RT := r2.rd
  replace kk := kk.trans (b.mono kk.size)
  have hSm := Lib.hid (And.intro SmS SmT)
  clear own own2 r r2 SmS SmT
  obtain ⟨V1, E1, HV1, HI1, HS1⟩ : ∃ (V : L) (E : Int), Hid (resV (setB S && setB T) (make (S ++ T)) = V ∧ resE (setB S && setB T) (make (S ++ T)) = E) ∧ Hid (∀ wx, Rd wx AS S.length S → Rd wx AT T.length T → Calls Try.prog 16 #[.slice AS S.length cS, .slice AT T.length cT] wx (SetOut V E wx)) ∧ Hid (∀ wx, Rd wx AS S.length S → Rd wx AT T.length T → Calls Try.prog 17 #[.slice AS S.length cS, .slice AT T.length cT] wx (SetOut V E wx)) :=
    ⟨_, _, Lib.hid ⟨rfl, rfl⟩, Lib.hid fun wx q q2 => impl_UniteSets AS AT _ _ cS cT S T MS.out MT.out wx q q2, Lib.hid fun wx q q2 => spec_UniteSets AS AT _ _ cS cT S T MS.out MT.out wx q q2⟩
  have HL1 : Hid (V1.length ≤ 2000000) := Lib.hid (by rw [← HV1.out.1]; exact res_len _ _)
  go_wp2_with fail
  refine (HI1.out _ RS RT).mono ?_
  rintro e w2 ⟨AG1, cG1, rfl, q, b⟩
  replace kk := kk.trans (b.mono kk.size)
  replace RS := RS.below b
  replace RT := RT.below b
  have RG1 := q.rd
  clear q
  go_wp2_with fail
  refine (HS1.out _ RS RT).mono ?_
  rintro e w3 ⟨AM1, cM1, rfl, q, b⟩
  replace kk := kk.trans (b.mono kk.size)
  replace RS := RS.below b
  replace RT := RT.below b
  replace RG1 := RG1.below b
  have RM1 := q.rd
  clear q
  obtain ⟨V2, E2, HV2, HI2, HS2⟩ : ∃ (V : L) (E : Int), Hid (resV (setB S && setB T) (meet S T) = V ∧ resE (setB S && setB T) (meet S T) = E) ∧ Hid (∀ wx, Rd wx AS S.length S → Rd wx AT T.length T → Calls Try.prog 18 #[.slice AS S.length cS, .slice AT T.length cT] wx (SetOut V E wx)) ∧ Hid (∀ wx, Rd wx AS S.length S → Rd wx AT T.length T → Calls Try.prog 19 #[.slice AS S.length cS, .slice AT T.length cT] wx (SetOut V E wx)) :=
    ⟨_, _, Lib.hid ⟨rfl, rfl⟩, Lib.hid fun wx q q2 => impl_MeetSets AS AT _ _ cS cT S T MS.out MT.out CS.out CT.out wx q q2, Lib.hid fun wx q q2 => spec_MeetSets AS AT _ _ cS cT S T MS.out MT.out wx q q2⟩
  have HL2 : Hid (V2.length ≤ 2000000) := Lib.hid (by rw [← HV2.out.1]; exact res_len _ _)
  go_wp2_with fail
  refine (HI2.out _ RS RT).mono ?_
  rintro e w4 ⟨AG2, cG2, rfl, q, b⟩
  replace kk := kk.trans (b.mono kk.size)
  replace RS := RS.below b
  replace RT := RT.below b
  replace RG1 := RG1.below b
  replace RM1 := RM1.below b
  have RG2 := q.rd
  clear q
  go_wp2_with fail
  refine (HS2.out _ RS RT).mono ?_
  rintro e w5 ⟨AM2, cM2, rfl, q, b⟩
  replace kk := kk.trans (b.mono kk.size)
  replace RS := RS.below b
  replace RT := RT.below b
  replace RG1 := RG1.below b
  replace RM1 := RM1.below b
  replace RG2 := RG2.below b
  have RM2 := q.rd
  clear q
  obtain ⟨V3, E3, HV3, HI3, HS3⟩ : ∃ (V : L) (E : Int), Hid (resV (setB S && setB T) (meet S (rest 0 T)) = V ∧ resE (setB S && setB T) (meet S (rest 0 T)) = E) ∧ Hid (∀ wx, Rd wx AS S.length S → Rd wx AT T.length T → Calls Try.prog 20 #[.slice AS S.length cS, .slice AT T.length cT] wx (SetOut V E wx)) ∧ Hid (∀ wx, Rd wx AS S.length S → Rd wx AT T.length T → Calls Try.prog 21 #[.slice AS S.length cS, .slice AT T.length cT] wx (SetOut V E wx)) :=
    ⟨_, _, Lib.hid ⟨rfl, rfl⟩, Lib.hid fun wx q q2 => impl_WithoutSet AS AT _ _ cS cT S T MS.out MT.out CS.out CT.out wx q q2, Lib.hid fun wx q q2 => spec_WithoutSet AS AT _ _ cS cT S T MS.out MT.out wx q q2⟩
  have HL3 : Hid (V3.length ≤ 2000000) := Lib.hid (by rw [← HV3.out.1]; exact res_len _ _)
  go_wp2_with fail
  refine (HI3.out _ RS RT).mono ?_
  rintro e w6 ⟨AG3, cG3, rfl, q, b⟩
  replace kk := kk.trans (b.mono kk.size)
  replace RS := RS.below b
  replace RT := RT.below b
  replace RG1 := RG1.below b
  replace RM1 := RM1.below b
  replace RG2 := RG2.below b
  replace RM2 := RM2.below b
  have RG3 := q.rd
  clear q
  go_wp2_with fail
  refine (HS3.out _ RS RT).mono ?_
  rintro e w7 ⟨AM3, cM3, rfl, q, b⟩
  replace kk := kk.trans (b.mono kk.size)
  replace RS := RS.below b
  replace RT := RT.below b
  replace RG1 := RG1.below b
  replace RM1 := RM1.below b
  replace RG2 := RG2.below b
  replace RM2 := RM2.below b
  replace RG3 := RG3.below b
  have RM3 := q.rd
  clear q
  go_wp2_with fail
  refine (laws_like AG1 AM1 V1.length cG1 cM1 V1 HL1.out _ RG1 RM1).mono ?_
  rintro e w8 ⟨rfl, b⟩
  replace kk := kk.trans (b.mono kk.size)
  replace RS := RS.below b
  replace RT := RT.below b
  replace RG1 := RG1.below b
  replace RM1 := RM1.below b
  replace RG2 := RG2.below b
  replace RM2 := RM2.below b
  replace RG3 := RG3.below b
  replace RM3 := RM3.below b
  clear RM1
  go_wp2_with fail
  refine (laws_like AG2 AM2 V2.length cG2 cM2 V2 HL2.out _ RG2 RM2).mono ?_
  rintro e w9 ⟨rfl, b⟩
  replace kk := kk.trans (b.mono kk.size)
  replace RS := RS.below b
  replace RT := RT.below b
  replace RG1 := RG1.below b
  replace RG2 := RG2.below b
  replace RM2 := RM2.below b
  replace RG3 := RG3.below b
  replace RM3 := RM3.below b
  clear RM2
  go_wp2_with fail
  refine (laws_like AG3 AM3 V3.length cG3 cM3 V3 HL3.out _ RG3 RM3).mono ?_
  rintro e w10 ⟨rfl, b⟩
  replace kk := kk.trans (b.mono kk.size)
  replace RS := RS.below b
  replace RT := RT.below b
  replace RG1 := RG1.below b
  replace RG2 := RG2.below b
  replace RG3 := RG3.below b
  replace RM3 := RM3.below b
  clear RM3
  obtain ⟨bS, hbS⟩ : ∃ x, setB S = x := ⟨_, rfl⟩
  go_wp2_with fail
  refine (impl_IsSetB AS _ cS S bS hbS MS.out _ RS).mono ?_
  rintro e w11 ⟨rfl, b⟩
  replace kk := kk.trans (b.mono kk.size)
  replace RS := RS.below b
  replace RT := RT.below b
  replace RG1 := RG1.below b
  replace RG2 := RG2.below b
  replace RG3 := RG3.below b
  go_wp2_with fail
  refine (spec_IsSetB AS _ cS S bS hbS MS.out _ RS).mono ?_
  rintro e w12 ⟨rfl, b⟩
  replace kk := kk.trans (b.mono kk.size)
  replace RS := RS.below b
  replace RT := RT.below b
  replace RG1 := RG1.below b
  replace RG2 := RG2.below b
  replace RG3 := RG3.below b
  by_cases h1 : E1 = 0
  rotate_left
  · go_wp2_with fail
    go_ret
    exact ⟨rfl, kk⟩
  by_cases h2 : E2 = 0
  rotate_left
  · go_wp2_with fail
    go_ret
    exact ⟨rfl, kk⟩
  by_cases h3 : E3 = 0
  rotate_left
  · go_wp2_with fail
    go_ret
    exact ⟨rfl, kk⟩
  obtain ⟨hok, e1, l1⟩ := res_pair _ _ (HV1.out.2.trans h1)
  obtain ⟨-, e2, l2⟩ := res_pair _ _ (HV2.out.2.trans h2)
  obtain ⟨-, e3, l3⟩ := res_pair _ _ (HV3.out.2.trans h3)
  subst h1 h2 h3
  have f1 : V1 = make (S ++ T) := HV1.out.1.symm.trans e1
  have f2 : V2 = meet S T := HV2.out.1.symm.trans e2
  have f3 : V3 = meet S (rest 0 T) := HV3.out.1.symm.trans e3
  obtain ⟨sS, sT⟩ : setB S = true ∧ setB T = true := by simpa using hok
  have nS := set_nf sS
  have nT := set_nf sT
  have g1 : setB V1 = true := by rw [f1]; exact set_mk l1 (make_nf fun s hs => by rcases List.mem_append.1 hs with h | h; exact nS.ok_of s h; exact nT.ok_of s h)
  have g2 : setB V2 = true := by rw [f2]; exact set_mk l2 ((meet_nf nS nT).mono (by omega))
  have g3 : setB V3 = true := by rw [f3]; exact set_mk l3 ((meet_nf nS (rest_nf (Int.le_refl 0) (Int.le_refl 0) nT)).mono (by omega))
  have c1 : cnt S + cnt T = cnt V1 + cnt V2 := by rw [f1, f2]; exact cnt_union nS nT
  have c2 : cnt V3 = cnt S - cnt V2 := by rw [f3, f2]; exact cnt_without nS nT
  have bd : ∀ X : L, setB X = true → -2002002000 ≤ cnt X ∧ cnt X ≤ 2002002000 := fun X h => by have := ((set_nf h).sm (by have := set_len h; omega)).cnt_drop 0; simpa using this
  obtain ⟨x, ux, x0, x1, Kx⟩ : ∃ x, cnt S = x ∧ -2002002000 ≤ x ∧ x ≤ 2002002000 ∧ Hid (∀ wx, Rd wx AS S.length S → Calls Try.prog 25 #[.slice AS S.length cS] wx (Two x 0 wx)) :=
    ⟨_, rfl, (bd _ sS).1, (bd _ sS).2, Lib.hid fun wx h => by have hh := impl_CountDays AS _ cS S MS.out wx h; rw [cntV, cntE, if_pos sS, if_pos sS] at hh; exact hh⟩
  obtain ⟨y, uy, y0, y1, Ky⟩ : ∃ x, cnt T = x ∧ -2002002000 ≤ x ∧ x ≤ 2002002000 ∧ Hid (∀ wx, Rd wx AT T.length T → Calls Try.prog 25 #[.slice AT T.length cT] wx (Two x 0 wx)) :=
    ⟨_, rfl, (bd _ sT).1, (bd _ sT).2, Lib.hid fun wx h => by have hh := impl_CountDays AT _ cT T MT.out wx h; rw [cntV, cntE, if_pos sT, if_pos sT] at hh; exact hh⟩
  obtain ⟨p, up, p0, p1, Kp⟩ : ∃ x, cnt V1 = x ∧ -2002002000 ≤ x ∧ x ≤ 2002002000 ∧ Hid (∀ wx, Rd wx AG1 V1.length V1 → Calls Try.prog 25 #[.slice AG1 V1.length cG1] wx (Two x 0 wx)) :=
    ⟨_, rfl, (bd _ g1).1, (bd _ g1).2, Lib.hid fun wx h => by have hh := impl_CountDays AG1 _ cG1 V1 (by have := set_len g1; unfold maxLen; omega) wx h; rw [cntV, cntE, if_pos g1, if_pos g1] at hh; exact hh⟩
  obtain ⟨q, uq, q0, q1, Kq⟩ : ∃ x, cnt V2 = x ∧ -2002002000 ≤ x ∧ x ≤ 2002002000 ∧ Hid (∀ wx, Rd wx AG2 V2.length V2 → Calls Try.prog 25 #[.slice AG2 V2.length cG2] wx (Two x 0 wx)) :=
    ⟨_, rfl, (bd _ g2).1, (bd _ g2).2, Lib.hid fun wx h => by have hh := impl_CountDays AG2 _ cG2 V2 (by have := set_len g2; unfold maxLen; omega) wx h; rw [cntV, cntE, if_pos g2, if_pos g2] at hh; exact hh⟩
  obtain ⟨r, ur, r0, r1, Kr⟩ : ∃ x, cnt V3 = x ∧ -2002002000 ≤ x ∧ x ≤ 2002002000 ∧ Hid (∀ wx, Rd wx AG3 V3.length V3 → Calls Try.prog 25 #[.slice AG3 V3.length cG3] wx (Two x 0 wx)) :=
    ⟨_, rfl, (bd _ g3).1, (bd _ g3).2, Lib.hid fun wx h => by have hh := impl_CountDays AG3 _ cG3 V3 (by have := set_len g3; unfold maxLen; omega) wx h; rw [cntV, cntE, if_pos g3, if_pos g3] at hh; exact hh⟩
  have Q1 : Hid (∀ wx, Rd wx AG1 V1.length V1 → Calls Try.prog 23 #[.slice AG1 V1.length cG1] wx (Bl true wx)) := Lib.hid fun wx h => impl_IsSetB AG1 _ cG1 V1 true g1 (by have := set_len g1; unfold maxLen; omega) wx h
  have Q2 : Hid (∀ wx, Rd wx AG2 V2.length V2 → Calls Try.prog 23 #[.slice AG2 V2.length cG2] wx (Bl true wx)) := Lib.hid fun wx h => impl_IsSetB AG2 _ cG2 V2 true g2 (by have := set_len g2; unfold maxLen; omega) wx h
  have Q3 : Hid (∀ wx, Rd wx AG3 V3.length V3 → Calls Try.prog 23 #[.slice AG3 V3.length cG3] wx (Bl true wx)) := Lib.hid fun wx h => impl_IsSetB AG3 _ cG3 V3 true g3 (by have := set_len g3; unfold maxLen; omega) wx h
  rw [ux, uy, up, uq] at c1
  rw [ur, ux, uq] at c2
  clear bd g1 g2 g3 nS nT sS sT f1 f2 f3 hok e1 e2 e3 l1 l2 l3 ux uy up uq ur hbS
  go_wp2_with fail
  refine (Kx.out _ RS).mono ?_
  rintro e w13 ⟨rfl, b⟩
  replace kk := kk.trans (b.mono kk.size)
  replace RS := RS.below b
  replace RT := RT.below b
  replace RG1 := RG1.below b
  replace RG2 := RG2.below b
  replace RG3 := RG3.below b
  clear RS
  go_wp2_with fail
  refine (Ky.out _ RT).mono ?_
  rintro e w14 ⟨rfl, b⟩
  replace kk := kk.trans (b.mono kk.size)
  replace RT := RT.below b
  replace RG1 := RG1.below b
  replace RG2 := RG2.below b
  replace RG3 := RG3.below b
  clear RT
  go_wp2_with fail
  refine (Kp.out _ RG1).mono ?_
  rintro e w15 ⟨rfl, b⟩
  replace kk := kk.trans (b.mono kk.size)
  replace RG1 := RG1.below b
  replace RG2 := RG2.below b
  replace RG3 := RG3.below b
  go_wp2_with fail
  refine (Kq.out _ RG2).mono ?_
  rintro e w16 ⟨rfl, b⟩
  replace kk := kk.trans (b.mono kk.size)
  replace RG1 := RG1.below b
  replace RG2 := RG2.below b
  replace RG3 := RG3.below b
  go_wp2_with fail
  refine (Kr.out _ RG3).mono ?_
  rintro e w17 ⟨rfl, b⟩
  replace kk := kk.trans (b.mono kk.size)
  replace RG1 := RG1.below b
  replace RG2 := RG2.below b
  replace RG3 := RG3.below b
  go_wp2_with fail
  refine (Q1.out _ RG1).mono ?_
  rintro e w18 ⟨rfl, b⟩
  replace kk := kk.trans (b.mono kk.size)
  replace RG1 := RG1.below b
  replace RG2 := RG2.below b
  replace RG3 := RG3.below b
  go_wp2_with fail
  refine (Q2.out _ RG2).mono ?_
  rintro e w19 ⟨rfl, b⟩
  replace kk := kk.trans (b.mono kk.size)
  replace RG1 := RG1.below b
  replace RG2 := RG2.below b
  replace RG3 := RG3.below b
  go_wp2_with fail
  refine (Q3.out _ RG3).mono ?_
  rintro e w20 ⟨rfl, b⟩
  replace kk := kk.trans (b.mono kk.size)
  replace RG1 := RG1.below b
  replace RG2 := RG2.below b
  replace RG3 := RG3.below b
  go_wp2_with fail
  go_ret
  exact ⟨rfl, kk⟩

end Go.Proofs.Ytochicfflmcfkaa.Sets
