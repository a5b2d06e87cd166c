/- The walk of the law FnReignLists: made by gen_wreignlists.py. -/
import Derived.Test.YtfhcakpmlppbkaaGreatDoorGrpBk
namespace Go.Proofs.YtfhcakpmlppbkaaGreatDoor.Rei
open Go.RowKit
open Go.Proofs.YtfhcakpmlppbkaaGreatDoor.Sets (cell_keep below_on laws_big laws_like)
open Go.Proofs.YtfhcakpmlppbkaaGreatDoor.Ints (laws_likeInts)

theorem txt_is (T : List UInt8) : ((str T).toList == [45]) = decide (T = [45]) := by
  have e : (str T).toList = T := by simp [str]
  rw [e]
  by_cases h : T = [45]
  · rw [h]; rfl
  · rw [decide_eq_false h]; simpa using h

set_option maxRecDepth 100000 in
set_option maxHeartbeats 16000000 in
theorem walk_FnReignLists (A : Option Addr) (len cap : Nat) (zs : List Int) (W : World) (hrow : IsRow .u8 W A len cap zs) (ht : Sets.Tabs W) :
    Calls Tryz.prog 4 #[.slice A len cap] W (Bl true W) := by
  have hm : len ≤ maxLen := by
    rcases hrow with ⟨_, rfl, _⟩ | ⟨_, _, h1, h2, _⟩
    · exact Nat.zero_le _
    · omega
  have HR := Lib.hid hrow
  have HTB := Lib.hid ht
  clear hrow ht
  have bel := Below.refl W.heap.size W
  by_cases hbig : 4096 < len
  · go_enter Tryz.func4, Tryz.ntmps4
    go_wp2_with fail
    refine (laws_big A len cap hm _).mono ?_
    rintro e w1 ⟨rfl, rfl⟩
    go_wp2_with fail
    go_ret
    exact ⟨rfl, Below.refl _ _⟩
  go_enter Tryz.func4, Tryz.ntmps4
  go_wp2_with fail
  refine (laws_big A len cap hm _).mono ?_
  rintro e w1 ⟨rfl, rfl⟩
  clear hm
  go_wp2_with fail
  refine (spec_DrawVoidDays A len cap zs W _ HR.out bel).mono ?_
  rintro e9 wq ⟨A0, c0, xs0, f, t, rfl, R0, hx0, -, -, -, hb⟩
  replace bel := bel.trans (hb.mono bel.size)
  clear hb
  generalize hN0 : xs0.length = N0 at *
  obtain ⟨V0, E0, HL0, IV, SV, HV⟩ := vd_pack xs0 N0 hN0 hx0 f t
  obtain ⟨D0, E1, HL1, ID, SD, HD⟩ := dd_pack xs0 N0 hx0 hN0
  clear hN0 hx0
  have hv0 := HL0.out
  go_wp2_with fail
  refine (IV.out A0 c0 _ R0).mono ?_
  rintro e9 wq ⟨AV, cV, rfl, RV, hb⟩
  replace bel := bel.trans (hb.mono bel.size)
  replace R0 := R0.below hb
  clear hb
  replace RV := RV.rd
  clear IV
  go_wp2_with fail
  refine (SV.out A0 c0 _ R0).mono ?_
  rintro e9 wq ⟨AW, cW, rfl, RW, hb⟩
  replace bel := bel.trans (hb.mono bel.size)
  replace R0 := R0.below hb
  replace RV := RV.below hb
  clear hb
  replace RW := RW.rd
  clear SV
  go_wp2_with fail
  refine (ID.out A0 c0 _ R0).mono ?_
  rintro e9 wq ⟨AD, cD, rfl, RD, hb⟩
  replace bel := bel.trans (hb.mono bel.size)
  replace R0 := R0.below hb
  replace RV := RV.below hb
  replace RW := RW.below hb
  clear hb
  replace RD := RD.rd
  clear ID
  go_wp2_with fail
  refine (SD.out A0 c0 _ R0).mono ?_
  rintro e9 wq ⟨AE, cE, rfl, RE, hb⟩
  replace bel := bel.trans (hb.mono bel.size)
  replace R0 := R0.below hb
  replace RV := RV.below hb
  replace RW := RW.below hb
  replace RD := RD.below hb
  clear hb
  replace RE := RE.rd
  clear SD
  go_wp2_with fail
  refine (spec_DrawReignsOn A len cap zs W _ HR.out bel).mono ?_
  rintro e9 wq ⟨A1, c1, xs1, n, rfl, R1, hx1, -, -, hb⟩
  replace bel := bel.trans (hb.mono bel.size)
  replace R0 := R0.below hb
  replace RV := RV.below hb
  replace RW := RW.below hb
  replace RD := RD.below hb
  replace RE := RE.below hb
  clear hb
  generalize hN1 : xs1.length = N1 at *
  obtain ⟨L, T, E2, b, HL2, IO, SO, IT, ST, IA, SA, HO⟩ := on_pack xs1 N1 hx1 hN1 n
  clear hN1 hx1
  go_wp2_with fail
  refine (IO.out A1 c1 _ R1).mono ?_
  rintro e9 wq ⟨AL, cL, rfl, RL, hb⟩
  replace bel := bel.trans (hb.mono bel.size)
  replace R0 := R0.below hb
  replace RV := RV.below hb
  replace RW := RW.below hb
  replace RD := RD.below hb
  replace RE := RE.below hb
  replace R1 := R1.below hb
  clear hb
  replace RL := RL.rd
  clear IO
  go_wp2_with fail
  refine (SO.out A1 c1 _ R1).mono ?_
  rintro e9 wq ⟨AM, cM, rfl, RM, hb⟩
  replace bel := bel.trans (hb.mono bel.size)
  replace R0 := R0.below hb
  replace RV := RV.below hb
  replace RW := RW.below hb
  replace RD := RD.below hb
  replace RE := RE.below hb
  replace R1 := R1.below hb
  replace RL := RL.below hb
  clear hb
  replace RM := RM.rd
  clear SO
  go_wp2_with fail
  refine (IT.out A1 c1 _ R1 (HTB.out.below bel)).mono ?_
  rintro e9 wq ⟨rfl, hb⟩
  replace bel := bel.trans (hb.mono bel.size)
  replace R0 := R0.below hb
  replace RV := RV.below hb
  replace RW := RW.below hb
  replace RD := RD.below hb
  replace RE := RE.below hb
  replace R1 := R1.below hb
  replace RL := RL.below hb
  replace RM := RM.below hb
  clear hb
  clear IT
  go_wp2_with fail
  refine (ST.out A1 c1 _ R1).mono ?_
  rintro e9 wq ⟨rfl, hb⟩
  replace bel := bel.trans (hb.mono bel.size)
  replace R0 := R0.below hb
  replace RV := RV.below hb
  replace RW := RW.below hb
  replace RD := RD.below hb
  replace RE := RE.below hb
  replace R1 := R1.below hb
  replace RL := RL.below hb
  replace RM := RM.below hb
  clear hb
  clear ST
  go_wp2_with fail
  refine (spec_DrawKingYearSet A len cap zs W _ HR.out bel).mono ?_
  rintro e9 wq ⟨A2, c2, xs2, king, k, rfl, R2, hx2, -, -, ⟨-, k1⟩, hb⟩
  replace bel := bel.trans (hb.mono bel.size)
  replace R0 := R0.below hb
  replace RV := RV.below hb
  replace RW := RW.below hb
  replace RD := RD.below hb
  replace RE := RE.below hb
  replace R1 := R1.below hb
  replace RL := RL.below hb
  replace RM := RM.below hb
  clear hb
  generalize hN2 : xs2.length = N2 at *
  obtain ⟨VK, E3, HL3, IK, SK⟩ := ky_pack xs2 N2 hx2 hN2 king k k1
  clear hN2 hx2 k1
  go_wp2_with fail
  refine (IK.out A2 c2 _ R2).mono ?_
  rintro e9 wq ⟨AK, cK, rfl, RK, hb⟩
  replace bel := bel.trans (hb.mono bel.size)
  replace R0 := R0.below hb
  replace RV := RV.below hb
  replace RW := RW.below hb
  replace RD := RD.below hb
  replace RE := RE.below hb
  replace R1 := R1.below hb
  replace RL := RL.below hb
  replace RM := RM.below hb
  replace R2 := R2.below hb
  clear hb
  replace RK := RK.rd
  clear IK
  go_wp2_with fail
  refine (SK.out A2 c2 _ R2).mono ?_
  rintro e9 wq ⟨AJ, cJ, rfl, RJ, hb⟩
  replace bel := bel.trans (hb.mono bel.size)
  replace R0 := R0.below hb
  replace RV := RV.below hb
  replace RW := RW.below hb
  replace RD := RD.below hb
  replace RE := RE.below hb
  replace R1 := R1.below hb
  replace RL := RL.below hb
  replace RM := RM.below hb
  replace R2 := R2.below hb
  replace RK := RK.below hb
  clear hb
  replace RJ := RJ.rd
  clear SK
  clear R2
  go_wp2_with fail
  refine (laws_like AV AW _ _ _ V0 HL0.out _ RV RW).mono ?_
  rintro e9 wq ⟨rfl, hb⟩
  replace bel := bel.trans (hb.mono bel.size)
  replace R0 := R0.below hb
  replace RV := RV.below hb
  replace RW := RW.below hb
  replace RD := RD.below hb
  replace RE := RE.below hb
  replace R1 := R1.below hb
  replace RL := RL.below hb
  replace RM := RM.below hb
  replace RK := RK.below hb
  replace RJ := RJ.below hb
  clear hb
  clear RW HL0
  go_wp2_with fail
  refine (laws_like AD AE _ _ _ D0 HL1.out _ RD RE).mono ?_
  rintro e9 wq ⟨rfl, hb⟩
  replace bel := bel.trans (hb.mono bel.size)
  replace R0 := R0.below hb
  replace RV := RV.below hb
  replace RD := RD.below hb
  replace RE := RE.below hb
  replace R1 := R1.below hb
  replace RL := RL.below hb
  replace RM := RM.below hb
  replace RK := RK.below hb
  replace RJ := RJ.below hb
  clear hb
  clear RD RE HL1
  go_wp2_with fail
  refine (laws_likeInts AL AM _ _ _ L HL2.out _ RL RM).mono ?_
  rintro e9 wq ⟨rfl, hb⟩
  replace bel := bel.trans (hb.mono bel.size)
  replace R0 := R0.below hb
  replace RV := RV.below hb
  replace R1 := R1.below hb
  replace RL := RL.below hb
  replace RM := RM.below hb
  replace RK := RK.below hb
  replace RJ := RJ.below hb
  clear hb
  clear RL RM HL2
  go_wp2_with fail
  refine (laws_like AK AJ _ _ _ VK HL3.out _ RK RJ).mono ?_
  rintro e9 wq ⟨rfl, hb⟩
  replace bel := bel.trans (hb.mono bel.size)
  replace R0 := R0.below hb
  replace RV := RV.below hb
  replace R1 := R1.below hb
  replace RK := RK.below hb
  replace RJ := RJ.below hb
  clear hb
  clear RK RJ HL3
  go_wp2_with fail
  refine (IA.out A1 c1 _ R1).mono ?_
  rintro e9 wq ⟨rfl, hb⟩
  replace bel := bel.trans (hb.mono bel.size)
  replace R0 := R0.below hb
  replace RV := RV.below hb
  replace R1 := R1.below hb
  clear hb
  clear IA
  go_wp2_with fail
  refine (SA.out A1 c1 _ R1).mono ?_
  rintro e9 wq ⟨rfl, hb⟩
  replace bel := bel.trans (hb.mono bel.size)
  replace R0 := R0.below hb
  replace RV := RV.below hb
  replace R1 := R1.below hb
  clear hb
  clear SA
  rcases HO.out with e2 | ⟨rfl, HLT, V2, IDD, IHD⟩
  · clear HO
    have e2b : (E2 == 0) = false := by simpa using e2
    rcases HD.out with rfl | e1
    · clear HD R1
      go_wp2_with fail
      rcases HV.out with e0 | ⟨rfl, FV⟩
      · clear HV R0 RV
        go_loopg [35] 0 (fun m i wr => m = 0 ∧ i = .int .i64 0 ∧ Below W.heap.size W wr)
        case atStart => exact ⟨rfl, rfl, bel⟩
        case round =>
          obtain ⟨rfl, rfl, hb⟩ := hrel
          clear bel
          go_wp2_with fail
          go_ret
          exact ⟨rfl, hb⟩
      · clear HV
        go_loopg [35] V0.length (fun m i wr => ∃ k : Nat, k ≤ V0.length ∧ m = V0.length - k ∧ i = .int .i64 k ∧ Below W.heap.size W wr ∧ RdR wr A0 N0 xs0 ∧ Sets.Rd wr AV V0.length V0)
        case atStart => exact ⟨0, by omega, by omega, rfl, bel, R0, RV⟩
        case round =>
          clear bel R0 RV
          obtain ⟨k, hk, hm, rfl, bel, R0, RV⟩ := hrel
          subst hm
          by_cases hlt : k < V0.length
          · obtain ⟨g, off, hl, rfl, hg, d0, d1⟩ := RV.at_ hlt
            obtain ⟨q1, q2, -, IR⟩ := FV k hl
            have h1 : decide (V0[k].1 < f) = false := by simpa using q1
            have h2 : decide (t < V0[k].2) = false := by simpa using q2
            clear q1 q2
            go_wp2_with fail
            refine (IR.out A0 c0 _ R0).mono ?_
            rintro e9 wq ⟨AN, cN, rfl, -, hb⟩
            have p0 := (hb.cell (p := ⟨g, off + k * 2, none⟩) hg).trans d0
            have p1 := (hb.cell (p := ⟨g, off + k * 2 + 1, none⟩) hg).trans d1
            replace bel := bel.trans (hb.mono bel.size)
            replace R0 := R0.below hb
            replace RV := RV.below hb
            clear hb d0 d1 hg
            go_wp2_with fail
            go_roundg (V0.length - (k + 1))
            case measure => omega
            case rel => exact ⟨k + 1, by omega, by omega, by go_num, bel, R0, RV⟩
          · have hge : (V0.length : Int) ≤ k := by omega
            clear FV
            go_wp2_with fail
            go_ret
            exact ⟨rfl, bel⟩
    · clear HD R1
      have e1b : (E1 == 0) = false := by simpa using e1
      go_wp2_with fail
      rcases HV.out with e0 | ⟨rfl, FV⟩
      · clear HV R0 RV
        go_loopg [35] 0 (fun m i wr => m = 0 ∧ i = .int .i64 0 ∧ Below W.heap.size W wr)
        case atStart => exact ⟨rfl, rfl, bel⟩
        case round =>
          obtain ⟨rfl, rfl, hb⟩ := hrel
          clear bel
          go_wp2_with fail
          go_ret
          exact ⟨rfl, hb⟩
      · clear HV
        go_loopg [35] V0.length (fun m i wr => ∃ k : Nat, k ≤ V0.length ∧ m = V0.length - k ∧ i = .int .i64 k ∧ Below W.heap.size W wr ∧ RdR wr A0 N0 xs0 ∧ Sets.Rd wr AV V0.length V0)
        case atStart => exact ⟨0, by omega, by omega, rfl, bel, R0, RV⟩
        case round =>
          clear bel R0 RV
          obtain ⟨k, hk, hm, rfl, bel, R0, RV⟩ := hrel
          subst hm
          by_cases hlt : k < V0.length
          · obtain ⟨g, off, hl, rfl, hg, d0, d1⟩ := RV.at_ hlt
            obtain ⟨q1, q2, -, IR⟩ := FV k hl
            have h1 : decide (V0[k].1 < f) = false := by simpa using q1
            have h2 : decide (t < V0[k].2) = false := by simpa using q2
            clear q1 q2
            go_wp2_with fail
            refine (IR.out A0 c0 _ R0).mono ?_
            rintro e9 wq ⟨AN, cN, rfl, -, hb⟩
            have p0 := (hb.cell (p := ⟨g, off + k * 2, none⟩) hg).trans d0
            have p1 := (hb.cell (p := ⟨g, off + k * 2 + 1, none⟩) hg).trans d1
            replace bel := bel.trans (hb.mono bel.size)
            replace R0 := R0.below hb
            replace RV := RV.below hb
            clear hb d0 d1 hg
            go_wp2_with fail
            go_roundg (V0.length - (k + 1))
            case measure => omega
            case rel => exact ⟨k + 1, by omega, by omega, by go_num, bel, R0, RV⟩
          · have hge : (V0.length : Int) ≤ k := by omega
            clear FV
            go_wp2_with fail
            go_ret
            exact ⟨rfl, bel⟩
  · clear HO
    obtain ⟨bb, hbb⟩ : ∃ bb, decide (T = [45]) = bb := ⟨_, rfl⟩
    have hl0 : ((L.length : Int) == 0) = bb := HLT.out.trans hbb
    have ht0 : ((str T).toList == [45]) = bb := hbb ▸ txt_is T
    clear HLT hbb
    rcases HD.out with rfl | e1
    · clear HD
      obtain ⟨b2, hb2⟩ : ∃ b2, decide (1 < (L.length : Int)) = b2 := ⟨_, rfl⟩
      rw [hb2] at IHD
      go_wp2_with fail
      refine (IDD.out A1 c1 _ R1).mono ?_
      rintro e9 wq ⟨AX, cX, rfl, RX, hb⟩
      replace bel := bel.trans (hb.mono bel.size)
      replace R0 := R0.below hb
      replace RV := RV.below hb
      replace RX := RX.rd
      clear hb IDD R1
      go_wp2_with fail
      refine (IHD.out AX cX _ RX).mono ?_
      rintro e9 wq ⟨rfl, hb⟩
      replace bel := bel.trans (hb.mono bel.size)
      replace R0 := R0.below hb
      replace RV := RV.below hb
      clear hb IHD RX
      go_wp2_with fail
      rcases HV.out with e0 | ⟨rfl, FV⟩
      · clear HV R0 RV
        go_loopg [35] 0 (fun m i wr => m = 0 ∧ i = .int .i64 0 ∧ Below W.heap.size W wr)
        case atStart => exact ⟨rfl, rfl, bel⟩
        case round =>
          obtain ⟨rfl, rfl, hb⟩ := hrel
          clear bel
          go_wp2_with fail
          go_ret
          exact ⟨rfl, hb⟩
      · clear HV
        go_loopg [35] V0.length (fun m i wr => ∃ k : Nat, k ≤ V0.length ∧ m = V0.length - k ∧ i = .int .i64 k ∧ Below W.heap.size W wr ∧ RdR wr A0 N0 xs0 ∧ Sets.Rd wr AV V0.length V0)
        case atStart => exact ⟨0, by omega, by omega, rfl, bel, R0, RV⟩
        case round =>
          clear bel R0 RV
          obtain ⟨k, hk, hm, rfl, bel, R0, RV⟩ := hrel
          subst hm
          by_cases hlt : k < V0.length
          · obtain ⟨g, off, hl, rfl, hg, d0, d1⟩ := RV.at_ hlt
            obtain ⟨q1, q2, -, IR⟩ := FV k hl
            have h1 : decide (V0[k].1 < f) = false := by simpa using q1
            have h2 : decide (t < V0[k].2) = false := by simpa using q2
            clear q1 q2
            go_wp2_with fail
            refine (IR.out A0 c0 _ R0).mono ?_
            rintro e9 wq ⟨AN, cN, rfl, -, hb⟩
            have p0 := (hb.cell (p := ⟨g, off + k * 2, none⟩) hg).trans d0
            have p1 := (hb.cell (p := ⟨g, off + k * 2 + 1, none⟩) hg).trans d1
            replace bel := bel.trans (hb.mono bel.size)
            replace R0 := R0.below hb
            replace RV := RV.below hb
            clear hb d0 d1 hg
            go_wp2_with fail
            go_roundg (V0.length - (k + 1))
            case measure => omega
            case rel => exact ⟨k + 1, by omega, by omega, by go_num, bel, R0, RV⟩
          · have hge : (V0.length : Int) ≤ k := by omega
            clear FV
            go_wp2_with fail
            go_ret
            exact ⟨rfl, bel⟩
    · clear HD R1 IDD IHD
      have e1b : (E1 == 0) = false := by simpa using e1
      go_wp2_with fail
      clear hl0 ht0
      rcases HV.out with e0 | ⟨rfl, FV⟩
      · clear HV R0 RV
        go_loopg [35] 0 (fun m i wr => m = 0 ∧ i = .int .i64 0 ∧ Below W.heap.size W wr)
        case atStart => exact ⟨rfl, rfl, bel⟩
        case round =>
          obtain ⟨rfl, rfl, hb⟩ := hrel
          clear bel
          go_wp2_with fail
          go_ret
          exact ⟨rfl, hb⟩
      · clear HV
        go_loopg [35] V0.length (fun m i wr => ∃ k : Nat, k ≤ V0.length ∧ m = V0.length - k ∧ i = .int .i64 k ∧ Below W.heap.size W wr ∧ RdR wr A0 N0 xs0 ∧ Sets.Rd wr AV V0.length V0)
        case atStart => exact ⟨0, by omega, by omega, rfl, bel, R0, RV⟩
        case round =>
          clear bel R0 RV
          obtain ⟨k, hk, hm, rfl, bel, R0, RV⟩ := hrel
          subst hm
          by_cases hlt : k < V0.length
          · obtain ⟨g, off, hl, rfl, hg, d0, d1⟩ := RV.at_ hlt
            obtain ⟨q1, q2, -, IR⟩ := FV k hl
            have h1 : decide (V0[k].1 < f) = false := by simpa using q1
            have h2 : decide (t < V0[k].2) = false := by simpa using q2
            clear q1 q2
            go_wp2_with fail
            refine (IR.out A0 c0 _ R0).mono ?_
            rintro e9 wq ⟨AN, cN, rfl, -, hb⟩
            have p0 := (hb.cell (p := ⟨g, off + k * 2, none⟩) hg).trans d0
            have p1 := (hb.cell (p := ⟨g, off + k * 2 + 1, none⟩) hg).trans d1
            replace bel := bel.trans (hb.mono bel.size)
            replace R0 := R0.below hb
            replace RV := RV.below hb
            clear hb d0 d1 hg
            go_wp2_with fail
            go_roundg (V0.length - (k + 1))
            case measure => omega
            case rel => exact ⟨k + 1, by omega, by omega, by go_num, bel, R0, RV⟩
          · have hge : (V0.length : Int) ≤ k := by omega
            clear FV
            go_wp2_with fail
            go_ret
            exact ⟨rfl, bel⟩

end Go.Proofs.YtfhcakpmlppbkaaGreatDoor.Rei
