/- The walk of the law FnStyleDays: made by gen_wstyledays.py. -/
import Derived.Test.YtigjpalbaapkkaaStyQ
namespace Go.Proofs.Ytigjpalbaapkkaa.Sty
open Go.RowKit
open Go.Proofs.Ytigjpalbaapkkaa.Ints (Rd Row laws_likeInts)

set_option maxHeartbeats 400000 in
theorem laws_big7 (A : Option Addr) (len cap : Nat) (hm : len ≤ maxLen) (w : World) :
    Calls Try.prog 15 #[.slice A len cap] w fun e w' => e = .returned (.bool (decide (4096 < len))) ∧ w = w' := by
  unfold maxLen at hm
  go_enter Try.func15, Try.ntmps15
  go_wp2_with fail
  go_ret
  exact ⟨ret_bool (by simp; try omega), rfl⟩
theorem below_new {w : World} (o : Obj) : Below w.heap.size w (w.alloc o) := (Below.refl _ _).alloc (Nat.le_refl _) _

set_option maxRecDepth 100000 in
set_option maxHeartbeats 8000000 in
theorem walk_FnStyleDays (A : Option Addr) (len cap : Nat) (zs : List Int) (W : World) (hrow : IsRow .u8 W A len cap zs) :
    Calls Try.prog 4 #[.slice A len cap] W (Bl true W) := by
  have hm : len ≤ maxLen := by
    rcases hrow with ⟨_, rfl, _⟩ | ⟨_, _, h1, h2, _⟩
    · exact Nat.zero_le _
    · omega
  have HR := Lib.hid hrow
  clear hrow
  have S := St.start W
  by_cases hbig : 4096 < len
  · go_enter Try.func4, Try.ntmps4
    go_wp2_with fail
    refine (laws_big7 A len cap hm _).mono ?_
    rintro e w1 ⟨rfl, rfl⟩
    go_wp2_with fail
    go_ret
    exact ⟨rfl, Below.refl _ _⟩
  go_enter Try.func4, Try.ntmps4
  go_wp2_with fail
  refine (laws_big7 A len cap hm _).mono ?_
  rintro e w1 ⟨rfl, rfl⟩
  go_wp2_with fail
  refine (spec_DrawDaysWith A len cap zs W _ HR.out S.bel).mono ?_
  rintro e wq ⟨s, y, m, d, rfl, hb⟩
  have S := S.call hb
  clear hb
  obtain ⟨V, E, HV, I1, S1, H1⟩ := dw_pack s y m d
  go_wp2_with fail
  refine (I1.out _).mono ?_
  rintro e wq ⟨AG, cG, rfl, RG, hb⟩
  have S := S.call hb
  replace RG := RG.rd
  clear hb
  go_wp2_with fail
  refine (S1.out _).mono ?_
  rintro e wq ⟨AW, cW, rfl, RW, hb⟩
  have S := S.call hb
  replace RG := RG.below hb
  replace RW := RW.rd
  clear hb
  clear I1 S1
  go_wp2_with fail
  refine (spec_DrawYearSpan A len cap zs W _ HR.out S.bel).mono ?_
  rintro e wq ⟨a, y2, rfl, hy, hb⟩
  have S := S.call hb
  replace RG := RG.below hb
  replace RW := RW.below hb
  clear hb
  obtain ⟨F, T, C, L, I2, S2, I3, S3, H2⟩ := sp_pack a y2 hy
  obtain ⟨hy1, hy2⟩ := hy
  go_wp2_with fail
  refine (I2.out _).mono ?_
  rintro e wA ⟨rfl, hb⟩
  have S := S.call hb
  replace RG := RG.below hb
  replace RW := RW.below hb
  have S := S.alloc 40 #[.int .i64 F, .int .i64 T]
  replace RG := RG.below (below_new (.cells #[.int .i64 F, .int .i64 T] 40))
  replace RW := RW.below (below_new (.cells #[.int .i64 F, .int .i64 T] 40))
  clear hb
  go_wp2_with fail
  refine (S2.out _).mono ?_
  rintro e wB ⟨rfl, hb⟩
  have S := S.call hb
  replace RG := RG.below hb
  replace RW := RW.below hb
  have S := S.alloc 40 #[.int .i64 F, .int .i64 T]
  replace RG := RG.below (below_new (.cells #[.int .i64 F, .int .i64 T] 40))
  replace RW := RW.below (below_new (.cells #[.int .i64 F, .int .i64 T] 40))
  clear hb
  clear I2 S2
  go_wp2_with fail
  refine (I3.out _).mono ?_
  rintro e wq ⟨rfl, hb⟩
  have S := S.call hb
  replace RG := RG.below hb
  replace RW := RW.below hb
  clear hb
  go_wp2_with fail
  refine (S3.out _).mono ?_
  rintro e wq ⟨rfl, hb⟩
  have S := S.call hb
  replace RG := RG.below hb
  replace RW := RW.below hb
  clear hb
  clear I3 S3 HR
  have hV := HV.out
  go_wp2_with fail
  refine (laws_likeInts AG AW _ _ _ V (by omega) _ RG RW).mono ?_
  rintro e wc ⟨rfl, hb⟩
  have S := S.call hb
  replace RG := RG.below hb
  clear hb RW
  have q0 : wc.cell? ⟨wB.heap.size, 0, none⟩ = some (.int .i64 F) := S.b0.cell 0
  have q1 : wc.cell? ⟨wB.heap.size, 1, none⟩ = some (.int .i64 T) := S.b0.cell 1
  have p0 : wc.cell? ⟨wA.heap.size, 0, none⟩ = some (.int .i64 F) := S.b1.cell 0
  have p1 : wc.cell? ⟨wA.heap.size, 1, none⟩ = some (.int .i64 T) := S.b1.cell 1
  have hne := neq_span F T
  have hgd : Try.prog.eqGuardType Try.prog.depth 40 = false := by kernel_rfl
  have bel := S.bel
  clear S
  obtain ⟨N, hN2⟩ : ∃ N, V.length = N := ⟨_, rfl⟩
  rw [hN2] at RG hV ⊢
  clear HV hN2
  rcases H2.out with e2 | ⟨rfl, rfl, hL1, hL2, hF0, hF1, F2, T2, C2, I4, H4⟩
  · clear H2
    rcases H1.out with rfl | ⟨rfl, FX⟩
    · clear H1
      go_wp2_with fail
      go_loopg [23] N (fun k i wr => ∃ n2 : Nat, i = .int .i64 n2 ∧ k = N - n2 ∧ n2 ≤ N ∧ Rd wr AG N V ∧ Below W.heap.size W wr)
      case atStart => exact ⟨0, rfl, by omega, by omega, RG, bel⟩
      case round =>
        clear bel RG
        obtain ⟨n2, rfl, hk, hn, RR, bel⟩ := hrel
        subst hk
        go_wp2_with fail
        go_ret
        exact ⟨ret_bool (by simp), bel⟩
    · clear H1
      go_wp2_with fail
      go_loopg [23] N (fun k i wr => ∃ n2 : Nat, i = .int .i64 n2 ∧ k = N - n2 ∧ n2 ≤ N ∧ Rd wr AG N V ∧ Below W.heap.size W wr)
      case atStart => exact ⟨0, rfl, by omega, by omega, RG, bel⟩
      case round =>
        clear bel RG
        obtain ⟨n2, rfl, hk, hn, RR, bel⟩ := hrel
        subst hk
        by_cases hlt : n2 < N
        · obtain ⟨G, off, hl, rfl, hg, c0⟩ := RR.at_ hlt
          have FY := Lib.hid (FX V[n2] (List.getElem_mem hl)).1
          have FO := Lib.hid (FX V[n2] (List.getElem_mem hl)).2
          generalize V[n2] = x5 at c0 FY FO
          clear hl FX
          go_wp2_with fail
          refine (FO.out _).mono ?_
          rintro e w5 ⟨Y5, rfl, hb⟩
          have R5 := (RR.below hb).below (below_new (.cells #[.int .i64 Y5, .int .i64 m, .int .i64 d] 47))
          have b5 := (bel.trans (hb.mono bel.size)).alloc (by have := bel.size; have := hb.size; omega) (.cells #[.int .i64 Y5, .int .i64 m, .int .i64 d] 47)
          have B5 := Blk.new w5 47 #[.int .i64 Y5, .int .i64 m, .int .i64 d]
          have c5 : (w5.alloc (.cells #[.int .i64 Y5, .int .i64 m, .int .i64 d] 47)).cell? ⟨G, off + n2, none⟩ = some (.int .i64 x5) := (below_new (w := w5) (.cells #[.int .i64 Y5, .int .i64 m, .int .i64 d] 47)).cell (p := ⟨G, off + n2, none⟩) (Nat.lt_of_lt_of_le hg hb.size) |>.trans ((hb.cell (p := ⟨G, off + n2, none⟩) hg).trans c0)
          clear hb RR bel c0 hg
          go_wp2_with fail
          refine (FY.out _).mono ?_
          rintro e w6 ⟨rfl, hb⟩
          have R6 := R5.below hb
          have b6 := b5.trans (hb.mono b5.size)
          have B6 := B5.below hb B5.lt
          have d0 : w6.cell? ⟨w5.heap.size, 1, none⟩ = some (.int .i64 m) := B6.cell 1
          have d1 : w6.cell? ⟨w5.heap.size, 2, none⟩ = some (.int .i64 d) := B6.cell 2
          clear hb R5 b5 B5 B6 c5
          go_wp2_with fail
          go_roundg (N - (n2 + 1))
          case measure => omega
          case rel => exact ⟨n2 + 1, by go_num, by omega, by omega, R6, b6⟩
        · have e : n2 = N := by omega
          subst e
          clear FX RR
          have hN3 : (n2 : Int) ≤ 2 := by omega
          go_wp2_with fail
          go_ret
          exact ⟨ret_bool (by simp; try omega), bel⟩
  · clear H2
    have hT1 : -1000 ≤ T := by omega
    have hT2 : T ≤ 731000 := by omega
    go_wp2_with fail
    refine (I4.out _).mono ?_
    rintro e wd ⟨rfl, hb⟩
    replace RG := (RG.below hb).below (below_new (.cells #[.int .i64 F2, .int .i64 T2] 40))
    have bel := (bel.trans (hb.mono bel.size)).alloc (by have := bel.size; have := hb.size; omega) (.cells #[.int .i64 F2, .int .i64 T2] 40)
    have r1 : (wd.alloc (.cells #[.int .i64 F2, .int .i64 T2] 40)).cell? ⟨wA.heap.size, 1, none⟩ = some (.int .i64 T) := (below_new (w := wd) (.cells #[.int .i64 F2, .int .i64 T2] 40)).cell (p := ⟨wA.heap.size, 1, none⟩) (Nat.lt_of_lt_of_le (World.block_lt_of_cell? _ _ p1) hb.size) |>.trans ((hb.cell (p := ⟨wA.heap.size, 1, none⟩) (World.block_lt_of_cell? _ _ p1)).trans p1)
    clear hb I4 q0 q1 p0 p1 hne hgd
    rcases H4 with rfl | ⟨rfl, hF2⟩
    · rcases H1.out with rfl | ⟨rfl, FX⟩
      · clear H1
        go_wp2_with fail
        go_loopg [23] N (fun k i wr => ∃ n2 : Nat, i = .int .i64 n2 ∧ k = N - n2 ∧ n2 ≤ N ∧ Rd wr AG N V ∧ Below W.heap.size W wr)
        case atStart => exact ⟨0, rfl, by omega, by omega, RG, bel⟩
        case round =>
          clear bel RG
          obtain ⟨n2, rfl, hk, hn, RR, bel⟩ := hrel
          subst hk
          go_wp2_with fail
          go_ret
          exact ⟨ret_bool (by simp), bel⟩
      · clear H1
        go_wp2_with fail
        go_loopg [23] N (fun k i wr => ∃ n2 : Nat, i = .int .i64 n2 ∧ k = N - n2 ∧ n2 ≤ N ∧ Rd wr AG N V ∧ Below W.heap.size W wr)
        case atStart => exact ⟨0, rfl, by omega, by omega, RG, bel⟩
        case round =>
          clear bel RG
          obtain ⟨n2, rfl, hk, hn, RR, bel⟩ := hrel
          subst hk
          by_cases hlt : n2 < N
          · obtain ⟨G, off, hl, rfl, hg, c0⟩ := RR.at_ hlt
            have FY := Lib.hid (FX V[n2] (List.getElem_mem hl)).1
            have FO := Lib.hid (FX V[n2] (List.getElem_mem hl)).2
            generalize V[n2] = x5 at c0 FY FO
            clear hl FX
            go_wp2_with fail
            refine (FO.out _).mono ?_
            rintro e w5 ⟨Y5, rfl, hb⟩
            have R5 := (RR.below hb).below (below_new (.cells #[.int .i64 Y5, .int .i64 m, .int .i64 d] 47))
            have b5 := (bel.trans (hb.mono bel.size)).alloc (by have := bel.size; have := hb.size; omega) (.cells #[.int .i64 Y5, .int .i64 m, .int .i64 d] 47)
            have B5 := Blk.new w5 47 #[.int .i64 Y5, .int .i64 m, .int .i64 d]
            have c5 : (w5.alloc (.cells #[.int .i64 Y5, .int .i64 m, .int .i64 d] 47)).cell? ⟨G, off + n2, none⟩ = some (.int .i64 x5) := (below_new (w := w5) (.cells #[.int .i64 Y5, .int .i64 m, .int .i64 d] 47)).cell (p := ⟨G, off + n2, none⟩) (Nat.lt_of_lt_of_le hg hb.size) |>.trans ((hb.cell (p := ⟨G, off + n2, none⟩) hg).trans c0)
            clear hb RR bel c0 hg
            go_wp2_with fail
            refine (FY.out _).mono ?_
            rintro e w6 ⟨rfl, hb⟩
            have R6 := R5.below hb
            have b6 := b5.trans (hb.mono b5.size)
            have B6 := B5.below hb B5.lt
            have d0 : w6.cell? ⟨w5.heap.size, 1, none⟩ = some (.int .i64 m) := B6.cell 1
            have d1 : w6.cell? ⟨w5.heap.size, 2, none⟩ = some (.int .i64 d) := B6.cell 2
            clear hb R5 b5 B5 B6 c5
            go_wp2_with fail
            go_roundg (N - (n2 + 1))
            case measure => omega
            case rel => exact ⟨n2 + 1, by go_num, by omega, by omega, R6, b6⟩
          · have e : n2 = N := by omega
            subst e
            clear FX RR
            have hN3 : (n2 : Int) ≤ 2 := by omega
            go_wp2_with fail
            go_ret
            exact ⟨ret_bool (by simp; try omega), bel⟩
    · subst hF2
      rcases H1.out with rfl | ⟨rfl, FX⟩
      · clear H1
        go_wp2_with fail
        go_loopg [23] N (fun k i wr => ∃ n2 : Nat, i = .int .i64 n2 ∧ k = N - n2 ∧ n2 ≤ N ∧ Rd wr AG N V ∧ Below W.heap.size W wr)
        case atStart => exact ⟨0, rfl, by omega, by omega, RG, bel⟩
        case round =>
          clear bel RG
          obtain ⟨n2, rfl, hk, hn, RR, bel⟩ := hrel
          subst hk
          go_wp2_with fail
          go_ret
          exact ⟨ret_bool (by simp), bel⟩
      · clear H1
        go_wp2_with fail
        go_loopg [23] N (fun k i wr => ∃ n2 : Nat, i = .int .i64 n2 ∧ k = N - n2 ∧ n2 ≤ N ∧ Rd wr AG N V ∧ Below W.heap.size W wr)
        case atStart => exact ⟨0, rfl, by omega, by omega, RG, bel⟩
        case round =>
          clear bel RG
          obtain ⟨n2, rfl, hk, hn, RR, bel⟩ := hrel
          subst hk
          by_cases hlt : n2 < N
          · obtain ⟨G, off, hl, rfl, hg, c0⟩ := RR.at_ hlt
            have FY := Lib.hid (FX V[n2] (List.getElem_mem hl)).1
            have FO := Lib.hid (FX V[n2] (List.getElem_mem hl)).2
            generalize V[n2] = x5 at c0 FY FO
            clear hl FX
            go_wp2_with fail
            refine (FO.out _).mono ?_
            rintro e w5 ⟨Y5, rfl, hb⟩
            have R5 := (RR.below hb).below (below_new (.cells #[.int .i64 Y5, .int .i64 m, .int .i64 d] 47))
            have b5 := (bel.trans (hb.mono bel.size)).alloc (by have := bel.size; have := hb.size; omega) (.cells #[.int .i64 Y5, .int .i64 m, .int .i64 d] 47)
            have B5 := Blk.new w5 47 #[.int .i64 Y5, .int .i64 m, .int .i64 d]
            have c5 : (w5.alloc (.cells #[.int .i64 Y5, .int .i64 m, .int .i64 d] 47)).cell? ⟨G, off + n2, none⟩ = some (.int .i64 x5) := (below_new (w := w5) (.cells #[.int .i64 Y5, .int .i64 m, .int .i64 d] 47)).cell (p := ⟨G, off + n2, none⟩) (Nat.lt_of_lt_of_le hg hb.size) |>.trans ((hb.cell (p := ⟨G, off + n2, none⟩) hg).trans c0)
            clear hb RR bel c0 hg
            go_wp2_with fail
            refine (FY.out _).mono ?_
            rintro e w6 ⟨rfl, hb⟩
            have R6 := R5.below hb
            have b6 := b5.trans (hb.mono b5.size)
            have B6 := B5.below hb B5.lt
            have d0 : w6.cell? ⟨w5.heap.size, 1, none⟩ = some (.int .i64 m) := B6.cell 1
            have d1 : w6.cell? ⟨w5.heap.size, 2, none⟩ = some (.int .i64 d) := B6.cell 2
            clear hb R5 b5 B5 B6 c5
            go_wp2_with fail
            go_roundg (N - (n2 + 1))
            case measure => omega
            case rel => exact ⟨n2 + 1, by go_num, by omega, by omega, R6, b6⟩
          · have e : n2 = N := by omega
            subst e
            clear FX RR
            have hN3 : (n2 : Int) ≤ 2 := by omega
            go_wp2_with fail
            go_ret
            exact ⟨ret_bool (by simp; try omega), bel⟩

end Go.Proofs.Ytigjpalbaapkkaa.Sty
