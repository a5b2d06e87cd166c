/- The walk of the law FnSetTexts. -/
import Derived.Test.YtfhcakpmlppbkaaGreatDoorDrawR
import Derived.Test.YtfhcakpmlppbkaaGreatDoorLike
import Derived.Test.YtfhcakpmlppbkaaGreatDoorMakeS
import Derived.Test.YtfhcakpmlppbkaaGreatDoorSetH
import Derived.Test.YtfhcakpmlppbkaaGreatDoorTxO
namespace Go.Proofs.YtfhcakpmlppbkaaGreatDoor.Sets
open Go.RowKit

theorem rd_length (l : List UInt8) : (rdV l).length ≤ 2000000 := by
  by_cases h : ∃ xs, isTxt l xs
  · obtain ⟨xs, hx⟩ := h
    rw [(rd_yes hx).1]
    have := set_len hx.1
    omega
  · rw [(rd_no h).1]; simp
theorem rd_back {l : List UInt8} (h : rdE l = 0) : txtV (rdV l) = l ∧ txtE (rdV l) = 0 := by
  by_cases hx : ∃ xs, isTxt l xs
  · obtain ⟨xs, hx⟩ := hx
    rw [(rd_yes hx).1]
    unfold txtV txtE
    rw [if_pos hx.1, if_pos hx.1]
    exact ⟨hx.2, rfl⟩
  · rw [(rd_no hx).2] at h
    omega
theorem txt_back {xs : L} (h : txtE xs = 0) : rdV (txtV xs) = xs ∧ rdE (txtV xs) = 0 := by
  unfold txtE at h
  split at h
  · rename_i hs
    have hx : isTxt (txtV xs) xs := ⟨hs, by unfold txtV; rw [if_pos hs]⟩
    exact rd_yes hx
  · omega
theorem mk_length (xs : L) : (mkV xs).length ≤ 2000000 := res_len _ _
theorem mk_day {xs : L} (h : mkE xs = 0) {s : Int × Int} (hs : s ∈ xs) {d : Int} (h1 : s.1 ≤ d) (h2 : d ≤ s.2) : hasV (mkV xs) d = true ∧ hasE (mkV xs) d = 0 := by
  unfold mkE at h
  split at h
  · rename_i hk
    split at h
    · rename_i hl
      have ha : ∀ s ∈ xs, ok s := (of_decide_eq_true hk).2
      have e : mkV xs = make xs := by unfold mkV resV; rw [if_pos hk, if_pos hl]
      have hset : setB (make xs) = true := set_mk hl (make_nf ha)
      have hb : hasB (make xs) d = true := hasB_t ((make_has ha d).2 ⟨s, hs, h1, h2⟩)
      have hd : 0 ≤ d ∧ d ≤ 730499 := by have := ha s hs; unfold ok at this; omega
      rw [e]
      unfold hasV hasE
      rw [hset, hb, if_pos rfl, if_pos hd, decide_eq_true hd]
      exact ⟨rfl, rfl⟩
    · omega
  · omega

set_option maxHeartbeats 4000000 in
set_option maxRecDepth 100000 in
theorem walk_FnSetTexts (A : Option Addr) (len cap : Nat) (zs : List Int) (W : World) (hrow : IsRow .u8 W A len cap zs) (he : Env W) :
    Calls Tryz.prog 3 #[.slice A len cap] W (Bl true W) := by
  have hm : len ≤ maxLen := by
    rcases hrow with ⟨_, rfl, _⟩ | ⟨_, _, h1, h2, _⟩
    · exact Nat.zero_le _
    · omega
  have HM := Lib.hid hm
  have HR := Lib.hid hrow
  have EV := Lib.hid he
  clear hrow hm he
  by_cases hbig : 4096 < len
  · go_enter Tryz.func3, Tryz.ntmps3
    go_wp2_with fail
    refine (laws_big A len cap HM.out _).mono ?_
    rintro e w1 ⟨rfl, rfl⟩
    simp only [hbig, decide_true]
    go_wp2_with fail
    go_ret
    exact ⟨rfl, Below.refl _ _⟩
  go_enter Tryz.func3, Tryz.ntmps3
  go_wp2_with fail
  refine (laws_big A len cap HM.out _).mono ?_
  rintro e w1 ⟨rfl, rfl⟩
  simp only [hbig, decide_false]
  have kk : Below W.heap.size W W := Below.refl _ _
  go_wp2_with fail
  refine (spec_DrawSetText A len cap zs W _ HR.out kk).mono ?_
  rintro e w2 ⟨v, S, rfl, SmS, own, b⟩
  obtain ⟨AS, cS, rfl, r⟩ := own.form
  have MS : Hid (S.length ≤ maxLen) := Lib.hid (by have := SmS.2; unfold maxLen; omega)
  have HLS : Hid (S.length ≤ 2000000) := Lib.hid (by have := SmS.2; omega)
  have RS := r.rd
  replace kk := kk.trans (b.mono kk.size)
  clear own r SmS
  obtain ⟨t, ct, HIt, HSt, HB⟩ : ∃ (t : List UInt8) (ct : Int), Hid (∀ wx, Rd wx AS S.length S → Tabs wx → Calls Tryz.prog 7 #[.slice AS S.length cS] wx (TxO t ct wx)) ∧ Hid (∀ wx, Rd wx AS S.length S → Calls Tryz.prog 8 #[.slice AS S.length cS] wx (TxO t ct wx)) ∧ Hid (ct = 0 → ∀ wx, Env wx → Calls Tryz.prog 10 #[.string (str t)] wx (SetOut S 0 wx)) :=
    ⟨txtV S, txtE S, Lib.hid fun wx q q2 => impl_SetText AS _ cS S MS.out wx q q2, Lib.hid fun wx q => spec_SetText AS _ cS S MS.out wx q, Lib.hid fun h wx q => by
      have hh := impl_ReadSet (txtV S) (by have := txtV_len S; omega) wx q
      rw [(txt_back h).1, (txt_back h).2] at hh
      exact hh⟩
  go_wp2_with fail
  refine (HIt.out _ RS (EV.out.below kk).1).mono ?_
  rintro e w3 ⟨rfl, b⟩
  replace kk := below_on kk b
  replace RS := RS.below b
  go_wp2_with fail
  refine (HSt.out _ RS).mono ?_
  rintro e w4 ⟨rfl, b⟩
  replace kk := below_on kk b
  replace RS := RS.below b
  clear HIt HSt
  go_wp2_with fail
  refine (spec_DrawReadSet A len cap zs W _ HR.out kk).mono ?_
  rintro e w5 ⟨l, rfl, hl, b⟩
  replace kk := below_on kk b
  replace RS := RS.below b
  obtain ⟨V1, E1, HL1, HI1, HS1, HA⟩ : ∃ (V : L) (E : Int), Hid (V.length ≤ 2000000) ∧ Hid (∀ wx, Env wx → Calls Tryz.prog 10 #[.string (str l)] wx (SetOut V E wx)) ∧ Hid (∀ wx, Calls Tryz.prog 11 #[.string (str l)] wx (SetOut V E wx)) ∧ Hid (E = 0 → ∀ A0 c0 wx, Rd wx A0 V.length V → Tabs wx → Calls Tryz.prog 7 #[.slice A0 V.length c0] wx (TxO l 0 wx)) :=
    ⟨rdV l, rdE l, Lib.hid (rd_length l), Lib.hid fun wx q => impl_ReadSet l (by omega) wx q, Lib.hid fun wx => spec_ReadSet l (by omega) wx, Lib.hid fun h A0 c0 wx q q2 => by
      have hh := impl_SetText A0 _ c0 (rdV l) (by have := rd_length l; unfold maxLen; omega) wx q q2
      rw [(rd_back h).1, (rd_back h).2] at hh
      exact hh⟩
  clear hl
  go_wp2_with fail
  refine (HI1.out _ (EV.out.below kk)).mono ?_
  rintro e w6 ⟨AG1, cG1, rfl, q, b⟩
  replace kk := below_on kk b
  replace RS := RS.below b
  have RG1 := q.rd
  clear q
  go_wp2_with fail
  refine (HS1.out _).mono ?_
  rintro e w7 ⟨AM1, cM1, rfl, q, b⟩
  replace kk := below_on kk b
  replace RS := RS.below b
  replace RG1 := RG1.below b
  have RM1 := q.rd
  clear q HI1 HS1
  go_wp2_with fail
  refine (spec_DrawMakeSet A len cap zs W _ HR.out kk).mono ?_
  rintro e w8 ⟨v, P, rfl, SmP, own, b⟩
  obtain ⟨AP, cP, rfl, r⟩ := own.form
  have MP : Hid (P.length ≤ maxLen) := Lib.hid (by have := SmP.2; unfold maxLen; omega)
  have HLP : Hid (P.length ≤ 2000000) := Lib.hid (by have := SmP.2; omega)
  have RP := r.rd
  replace kk := kk.trans (b.mono kk.size)
  replace RS := RS.below b
  replace RG1 := RG1.below b
  replace RM1 := RM1.below b
  clear own r SmP
  obtain ⟨V2, E2, HL2, HI2, HS2, HD⟩ : ∃ (V : L) (E : Int), Hid (V.length ≤ 2000000) ∧ Hid (∀ wx, Rd wx AP P.length P → Calls Tryz.prog 13 #[.slice AP P.length cP] wx (SetOut V E wx)) ∧ Hid (∀ wx, Rd wx AP P.length P → Calls Tryz.prog 14 #[.slice AP P.length cP] wx (SetOut V E wx)) ∧
      Hid (∀ A0 c0, E = 0 → ∀ (k : Nat) (hk : k < P.length), (∀ wx, Rd wx A0 V.length V → Calls Tryz.prog 16 #[.slice A0 V.length c0, .int .i64 P[k].1] wx (TwoB true 0 wx)) ∧ (∀ wx, Rd wx A0 V.length V → Calls Tryz.prog 16 #[.slice A0 V.length c0, .int .i64 P[k].2] wx (TwoB true 0 wx))) :=
    ⟨mkV P, mkE P, Lib.hid (mk_length P), Lib.hid fun wx q => impl_MakeSet AP _ cP P MP.out wx q, Lib.hid fun wx q => spec_MakeSet AP _ cP P MP.out wx q, Lib.hid fun A0 c0 h k hk => by
      have hp : P[k] ∈ P := List.getElem_mem hk
      have hmk : mkOk P = true := by
        unfold mkE at h
        split at h
        · assumption
        · omega
      have hok := (of_decide_eq_true hmk).2 _ hp
      unfold ok at hok
      have hv : (mkV P).length ≤ maxLen := by have := mk_length P; unfold maxLen; omega
      constructor
      · intro wx q
        have hh := impl_HasDay A0 _ c0 (mkV P) P[k].1 hv wx q
        rw [(mk_day h hp (d := P[k].1) (by omega) (by omega)).1, (mk_day h hp (d := P[k].1) (by omega) (by omega)).2] at hh
        exact hh
      · intro wx q
        have hh := impl_HasDay A0 _ c0 (mkV P) P[k].2 hv wx q
        rw [(mk_day h hp (d := P[k].2) (by omega) (by omega)).1, (mk_day h hp (d := P[k].2) (by omega) (by omega)).2] at hh
        exact hh⟩
  go_wp2_with fail
  refine (HI2.out _ RP).mono ?_
  rintro e w9 ⟨AG2, cG2, rfl, q, b⟩
  replace kk := below_on kk b
  replace RS := RS.below b
  replace RG1 := RG1.below b
  replace RM1 := RM1.below b
  replace RP := RP.below b
  have RG2 := q.rd
  clear q
  go_wp2_with fail
  refine (HS2.out _ RP).mono ?_
  rintro e w10 ⟨AM2, cM2, rfl, q, b⟩
  replace kk := below_on kk b
  replace RS := RS.below b
  replace RG1 := RG1.below b
  replace RM1 := RM1.below b
  replace RP := RP.below b
  replace RG2 := RG2.below b
  have RM2 := q.rd
  clear q HI2 HS2
  replace HD := Lib.hid (HD.out AG2 cG2)
  go_wp2_with fail
  refine (laws_like AG1 AM1 V1.length cG1 cM1 V1 HL1.out _ RG1 RM1).mono ?_
  rintro e w11 ⟨rfl, b⟩
  replace kk := below_on kk b
  clear RM1
  replace RS := RS.below b
  replace RG1 := RG1.below b
  replace RP := RP.below b
  replace RG2 := RG2.below b
  replace RM2 := RM2.below b
  go_wp2_with fail
  refine (laws_like AG2 AM2 V2.length cG2 cM2 V2 HL2.out _ RG2 RM2).mono ?_
  rintro e w12 ⟨rfl, b⟩
  replace kk := below_on kk b
  clear RM2
  replace RS := RS.below b
  replace RG1 := RG1.below b
  replace RP := RP.below b
  replace RG2 := RG2.below b
  by_cases h1 : E1 = 0
  · have KA := Lib.hid (HA.out h1 AG1 cG1)
    subst h1
    go_wp2_with fail
    refine (KA.out _ RG1 (EV.out.below kk).1).mono ?_
    rintro e w13 ⟨rfl, b⟩
    replace kk := below_on kk b
    clear RG1 KA HA
    replace RS := RS.below b
    replace RP := RP.below b
    replace RG2 := RG2.below b
    have RS0 := Lib.hid RS
    have RP0 := Lib.hid RP
    have RG20 := Lib.hid RG2
    have kk0 := Lib.hid kk
    clear RS RP RG2 kk
    go_wp2_with fail
    go_loopg [20] P.length (fun m i wr => ∃ k : Nat, k ≤ P.length ∧ m = P.length - k ∧ i = .int .i64 k ∧ Below W.heap.size W wr ∧ Rd wr AS S.length S ∧ Rd wr AP P.length P ∧ Rd wr AG2 V2.length V2)
    case atStart => exact ⟨0, by omega, by omega, rfl, kk0.out, RS0.out, RP0.out, RG20.out⟩
    case round =>
      clear RS0 RP0 RG20 kk0
      obtain ⟨k, hk, hm, rfl, kk, RS, RP, RG2⟩ := hrel
      subst hm
      by_cases h2 : E2 = 0
      · by_cases hlt : k < P.length
        · have hlt' : (k : Int) < (P.length : Int) := by omega
          have hp2 := HLP.out
          obtain ⟨K1, K2⟩ := HD.out h2 k hlt
          have D1 := Lib.hid K1
          have D2 := Lib.hid K2
          clear K1 K2
          subst h2
          obtain ⟨g, off, hl, hA, hg, c0, c1⟩ := RP.at_ hlt
          subst hA
          go_wp2_with fail
          refine (D1.out _ RG2).mono ?_
          rintro e w14 ⟨rfl, b⟩
          replace kk := below_on kk b
          replace RS := RS.below b
          replace RP := RP.below b
          replace RG2 := RG2.below b
          obtain ⟨g', off', hl', hA, hg', c0', c1'⟩ := RP.at_ hlt
          injection hA with hA
          injection hA with hA1 hA2
          subst hA1 hA2
          go_wp2_with fail
          refine (D2.out _ RG2).mono ?_
          rintro e w15 ⟨rfl, b⟩
          replace kk := below_on kk b
          replace RS := RS.below b
          replace RP := RP.below b
          replace RG2 := RG2.below b
          go_wp2_with fail
          go_roundg (P.length - (k + 1))
          case measure => omega
          case rel => exact ⟨k + 1, by omega, by omega, by go_num, kk, RS, RP, RG2⟩
        · have hlt' : ¬ (k : Int) < (P.length : Int) := by omega
          subst h2
          clear HD RP RG2
          by_cases h3 : ct = 0
          · have KB := Lib.hid (HB.out h3)
            subst h3
            have e3 : ((0 : Int) != 0) = false := rfl
            go_wp2_with fail
            refine (KB.out _ (EV.out.below kk)).mono ?_
            rintro e w20 ⟨AB, cB, rfl, q, b⟩
            replace kk := below_on kk b
            replace RS := RS.below b
            have RB := q.rd
            clear q
            go_wp2_with fail
            refine (laws_like AB AS S.length cB cS S HLS.out _ RB RS).mono ?_
            rintro e w21 ⟨rfl, b⟩
            replace kk := below_on kk b
            go_wp2_with fail
            go_ret
            exact ⟨rfl, kk⟩
          · have e3 : (ct != 0) = true := by simpa using h3
            clear h3
            go_wp2_with fail
            go_ret
            exact ⟨rfl, kk⟩
      · have e2 : (E2 == 0) = false := by simpa using h2
        clear HD RP RG2 h2
        by_cases h3 : ct = 0
        · have KB := Lib.hid (HB.out h3)
          subst h3
          have e3 : ((0 : Int) != 0) = false := rfl
          go_wp2_with fail
          refine (KB.out _ (EV.out.below kk)).mono ?_
          rintro e w20 ⟨AB, cB, rfl, q, b⟩
          replace kk := below_on kk b
          replace RS := RS.below b
          have RB := q.rd
          clear q
          go_wp2_with fail
          refine (laws_like AB AS S.length cB cS S HLS.out _ RB RS).mono ?_
          rintro e w21 ⟨rfl, b⟩
          replace kk := below_on kk b
          go_wp2_with fail
          go_ret
          exact ⟨rfl, kk⟩
        · have e3 : (ct != 0) = true := by simpa using h3
          clear h3
          go_wp2_with fail
          go_ret
          exact ⟨rfl, kk⟩
  · have e1 : (E1 == 0) = false := by simpa using h1
    clear RG1 HA h1
    have RS0 := Lib.hid RS
    have RP0 := Lib.hid RP
    have RG20 := Lib.hid RG2
    have kk0 := Lib.hid kk
    clear RS RP RG2 kk
    go_wp2_with fail
    go_loopg [20] P.length (fun m i wr => ∃ k : Nat, k ≤ P.length ∧ m = P.length - k ∧ i = .int .i64 k ∧ Below W.heap.size W wr ∧ Rd wr AS S.length S ∧ Rd wr AP P.length P ∧ Rd wr AG2 V2.length V2)
    case atStart => exact ⟨0, by omega, by omega, rfl, kk0.out, RS0.out, RP0.out, RG20.out⟩
    case round =>
      clear RS0 RP0 RG20 kk0
      obtain ⟨k, hk, hm, rfl, kk, RS, RP, RG2⟩ := hrel
      subst hm
      by_cases h2 : E2 = 0
      · by_cases hlt : k < P.length
        · have hlt' : (k : Int) < (P.length : Int) := by omega
          have hp2 := HLP.out
          obtain ⟨K1, K2⟩ := HD.out h2 k hlt
          have D1 := Lib.hid K1
          have D2 := Lib.hid K2
          clear K1 K2
          subst h2
          obtain ⟨g, off, hl, hA, hg, c0, c1⟩ := RP.at_ hlt
          subst hA
          go_wp2_with fail
          refine (D1.out _ RG2).mono ?_
          rintro e w14 ⟨rfl, b⟩
          replace kk := below_on kk b
          replace RS := RS.below b
          replace RP := RP.below b
          replace RG2 := RG2.below b
          obtain ⟨g', off', hl', hA, hg', c0', c1'⟩ := RP.at_ hlt
          injection hA with hA
          injection hA with hA1 hA2
          subst hA1 hA2
          go_wp2_with fail
          refine (D2.out _ RG2).mono ?_
          rintro e w15 ⟨rfl, b⟩
          replace kk := below_on kk b
          replace RS := RS.below b
          replace RP := RP.below b
          replace RG2 := RG2.below b
          go_wp2_with fail
          go_roundg (P.length - (k + 1))
          case measure => omega
          case rel => exact ⟨k + 1, by omega, by omega, by go_num, kk, RS, RP, RG2⟩
        · have hlt' : ¬ (k : Int) < (P.length : Int) := by omega
          subst h2
          clear HD RP RG2
          by_cases h3 : ct = 0
          · have KB := Lib.hid (HB.out h3)
            subst h3
            have e3 : ((0 : Int) != 0) = false := rfl
            go_wp2_with fail
            refine (KB.out _ (EV.out.below kk)).mono ?_
            rintro e w20 ⟨AB, cB, rfl, q, b⟩
            replace kk := below_on kk b
            replace RS := RS.below b
            have RB := q.rd
            clear q
            go_wp2_with fail
            refine (laws_like AB AS S.length cB cS S HLS.out _ RB RS).mono ?_
            rintro e w21 ⟨rfl, b⟩
            replace kk := below_on kk b
            go_wp2_with fail
            go_ret
            exact ⟨rfl, kk⟩
          · have e3 : (ct != 0) = true := by simpa using h3
            clear h3
            go_wp2_with fail
            go_ret
            exact ⟨rfl, kk⟩
      · have e2 : (E2 == 0) = false := by simpa using h2
        clear HD RP RG2 h2
        by_cases h3 : ct = 0
        · have KB := Lib.hid (HB.out h3)
          subst h3
          have e3 : ((0 : Int) != 0) = false := rfl
          go_wp2_with fail
          refine (KB.out _ (EV.out.below kk)).mono ?_
          rintro e w20 ⟨AB, cB, rfl, q, b⟩
          replace kk := below_on kk b
          replace RS := RS.below b
          have RB := q.rd
          clear q
          go_wp2_with fail
          refine (laws_like AB AS S.length cB cS S HLS.out _ RB RS).mono ?_
          rintro e w21 ⟨rfl, b⟩
          replace kk := below_on kk b
          go_wp2_with fail
          go_ret
          exact ⟨rfl, kk⟩
        · have e3 : (ct != 0) = true := by simpa using h3
          clear h3
          go_wp2_with fail
          go_ret
          exact ⟨rfl, kk⟩

end Go.Proofs.YtfhcakpmlppbkaaGreatDoor.Sets
