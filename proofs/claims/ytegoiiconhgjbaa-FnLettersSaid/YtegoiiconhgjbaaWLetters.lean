/- The walk of the law FnLetters. -/
import Derived.Test.YtegoiiconhgjbaaEasQ
import Derived.Test.YtegoiiconhgjbaaEasE
namespace Go.Proofs.Ytegoiiconhgjbaa.Eas
open Go.RowKit
open Go.Proofs.Ytegoiiconhgjbaa.Ints (Rd Row laws_likeInts)

set_option maxHeartbeats 400000 in
theorem laws_big2 (A : Option Addr) (len cap : Nat) (hm : len ≤ maxLen) (w : World) :
    Calls Try.prog 18 #[.slice A len cap] w fun e w' => e = .returned (.bool (decide (4096 < len))) ∧ w = w' := by
  unfold maxLen at hm
  go_enter Try.func18, Try.ntmps18
  go_wp2_with fail
  go_ret
  exact ⟨ret_bool (by simp; try omega), rfl⟩

/-- The loop over the years that are told. -/
def LLoop (AG : Option Addr) (V : List Int) (N : Nat) (W : World) (k : Nat) (i : Value) (wr : World) : Prop :=
  ∃ n : Nat, i = .int .i64 n ∧ k = N - n ∧ n ≤ N ∧ Rd wr AG N V ∧ Below W.heap.size W wr

set_option maxRecDepth 100000 in
set_option maxHeartbeats 4000000 in
theorem walk_FnLetters (A : Option Addr) (len cap : Nat) (zs : List Int) (W : World) (hrow : IsRow .u8 W A len cap zs) :
    Calls Try.prog 3 #[.slice A len cap] W (Bl true W) := by
  have hm : len ≤ maxLen := by
    rcases hrow with ⟨_, rfl, _⟩ | ⟨_, _, h1, h2, _⟩
    · exact Nat.zero_le _
    · omega
  have HR := Lib.hid hrow
  clear hrow
  have S := St.start W
  by_cases hbig : 4096 < len
  · go_enter Try.func3, Try.ntmps3
    go_wp2_with fail
    refine (laws_big2 A len cap hm _).mono ?_
    rintro e w1 ⟨rfl, rfl⟩
    go_wp2_with fail
    go_ret
    exact ⟨rfl, Below.refl _ _⟩
  go_enter Try.func3, Try.ntmps3
  go_wp2_with fail
  refine (laws_big2 A len cap hm _).mono ?_
  rintro e w1 ⟨rfl, rfl⟩
  go_wp2_with fail
  refine (spec_DrawSundayLetters A len cap zs W _ HR.out S.bel).mono ?_
  rintro e w1 ⟨y, rfl, hy, hb⟩
  have S := S.call hb
  obtain ⟨y0, y3⟩ := hy
  obtain ⟨a, b, e0, g, I1, S1, I2, S2, HL⟩ := let_pack y
  go_wp2_with fail
  refine (I1.out _).mono ?_
  rintro e wq ⟨rfl, hb⟩
  have S := S.call hb
  clear hb
  go_wp2_with fail
  refine (S1.out _).mono ?_
  rintro e wq ⟨rfl, hb⟩
  have S := S.call hb
  clear hb
  go_wp2_with fail
  refine (I2.out _).mono ?_
  rintro e wq ⟨rfl, hb⟩
  have S := S.call hb
  clear hb
  go_wp2_with fail
  refine (S2.out _).mono ?_
  rintro e wq ⟨rfl, hb⟩
  have S := S.call hb
  clear hb
  clear I1 S1 I2 S2
  go_wp2_with fail
  refine (spec_DrawYearsWithEaster A len cap zs W _ HR.out S.bel).mono ?_
  rintro e w1 ⟨m, d, f, t, rfl, -, -, -, -, hb⟩
  have S := S.call hb
  clear hb
  obtain ⟨V, E, HN, I3, S3, HV⟩ := ints_pack m d f t
  go_wp2_with fail
  refine (I3.out _).mono ?_
  rintro e w2 ⟨AG, cG, rfl, RG, hb⟩
  have S := S.call hb
  replace RG := RG.rd
  clear hb
  go_wp2_with fail
  refine (S3.out _).mono ?_
  rintro e w3 ⟨AW, cW, rfl, RW, hb⟩
  have S := S.call hb
  replace RG := RG.below hb
  replace RW := RW.rd
  clear hb I3 S3
  go_wp2_with fail
  refine (laws_likeInts AG AW _ _ _ V HN.out w3 RG RW).mono ?_
  rintro e w4 ⟨rfl, hb⟩
  have S := S.call hb
  replace RG := RG.below hb
  have bel := S.bel
  clear hb RW S
  have hN := HN.out
  obtain ⟨N, hN2⟩ : ∃ N, V.length = N := ⟨_, rfl⟩
  rw [hN2] at RG hN ⊢
  clear HN hN2
  rcases HV.out with ⟨rfl, HX⟩ | rfl
  · go_wp2_with fail
    go_loopg [22] N (fun k i wr => LLoop AG V N W k i wr)
    case atStart => exact ⟨0, rfl, by omega, by omega, RG, bel⟩
    case round =>
      obtain ⟨n, rfl, hk, hn, RR, bel⟩ := hrel
      subst hk
      by_cases hlt : n < N
      · obtain ⟨G, off, hl, rfl, hg, c0⟩ := RR.at_ hlt
        obtain ⟨o, OX, DX⟩ := HX.out V[n] (List.getElem_mem hl)
        generalize V[n] = x at c0 OX DX
        go_wp2_with fail
        refine (OX.out _).mono ?_
        rintro e w5 ⟨rfl, hb⟩
        have R5 := RR.below hb
        have b5 := bel.trans (hb.mono bel.size)
        go_wp2_with fail
        refine (DX.out _).mono ?_
        rintro e w6 ⟨rfl, hb6⟩
        have k6 := hb6.alloc hb6.size (.cells #[.int .i64 x, .int .i64 m, .int .i64 d] 36)
        have R6 := R5.below k6
        have b6 := b5.trans (k6.mono b5.size)
        go_wp2_with fail
        go_roundg (N - (n + 1))
        case measure => omega
        case rel => exact ⟨n + 1, by go_num, by omega, by omega, R6, b6⟩
      · have e : n = N := by omega
        subst e
        have S := St.start wr
        rcases HL.out with ⟨rfl, a0, a1, b0, b1, g0, g1, x, z, D1, D2, W1, W2⟩ | rfl
        · go_wp2_with fail
          refine (D1.out _).mono ?_
          rintro e wq ⟨rfl, hb⟩
          have S := S.call hb
          clear hb
          go_wp2_with fail
          refine (D2.out _).mono ?_
          rintro e wq ⟨rfl, hb⟩
          have S := S.call hb
          clear hb
          go_wp2_with fail
          refine (W1.out _).mono ?_
          rintro e wq ⟨rfl, hb⟩
          have S := S.call hb
          clear hb
          go_wp2_with fail
          refine (W2.out _).mono ?_
          rintro e wq ⟨rfl, hb⟩
          have S := S.call hb
          clear hb
          go_wp2_with fail
          go_ret
          exact ⟨rfl, bel.trans (S.bel.mono bel.size)⟩
        · go_wp2_with fail
          go_ret
          exact ⟨rfl, bel.trans (S.bel.mono bel.size)⟩
  · go_wp2_with fail
    go_loopg [22] N (fun k i wr => LLoop AG V N W k i wr)
    case atStart => exact ⟨0, rfl, by omega, by omega, RG, bel⟩
    case round =>
      obtain ⟨n, rfl, hk, hn, RR, bel⟩ := hrel
      subst hk
      have S := St.start wr
      rcases HL.out with ⟨rfl, a0, a1, b0, b1, g0, g1, x, z, D1, D2, W1, W2⟩ | rfl
      · go_wp2_with fail
        refine (D1.out _).mono ?_
        rintro e wq ⟨rfl, hb⟩
        have S := S.call hb
        clear hb
        go_wp2_with fail
        refine (D2.out _).mono ?_
        rintro e wq ⟨rfl, hb⟩
        have S := S.call hb
        clear hb
        go_wp2_with fail
        refine (W1.out _).mono ?_
        rintro e wq ⟨rfl, hb⟩
        have S := S.call hb
        clear hb
        go_wp2_with fail
        refine (W2.out _).mono ?_
        rintro e wq ⟨rfl, hb⟩
        have S := S.call hb
        clear hb
        go_wp2_with fail
        go_ret
        exact ⟨rfl, bel.trans (S.bel.mono bel.size)⟩
      · go_wp2_with fail
        go_ret
        exact ⟨rfl, bel.trans (S.bel.mono bel.size)⟩

end Go.Proofs.Ytegoiiconhgjbaa.Eas
