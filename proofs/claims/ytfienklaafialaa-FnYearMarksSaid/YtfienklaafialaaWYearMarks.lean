/- The walk of the law FnYearMarks: made by gen_wyearmarks.py. -/
import Derived.Test.YtfienklaafialaaIndS
import Derived.Deep.RegionHeld3
namespace Go.Proofs.Ytfienklaafialaa.Ind
open Go.RowKit
open Go.Proofs.Ytfienklaafialaa.Sets (cell_keep below_on)

theorem ret_bool8 {a b : Bool} (h : b = a) : Ending.returned (.bool a) = .returned (.bool b) := by rw [h]
set_option maxHeartbeats 400000 in
theorem laws_big8 (A : Option Addr) (len cap : Nat) (hm : len ≤ maxLen) (w : World) :
    Calls Try.prog 13 #[.slice A len cap] w fun e w' => e = .returned (.bool (decide (4096 < len))) ∧ w = w' := by
  unfold maxLen at hm
  go_enter Try.func13, Try.ntmps13
  go_wp2_with fail
  go_ret
  exact ⟨ret_bool8 (by simp; try omega), rfl⟩
theorem rd_one (w : World) (y : Int) : Ints.Rd (w.alloc (.cells #[.int .i64 y] 2)) (some ⟨w.heap.size, 0, none⟩) 1 [y] :=
  ⟨rfl, fun _ => ⟨w.heap.size, 0, rfl, by simp, fun k hk => by
    have : k = 0 := by simpa using hk
    subst this
    exact (Blk.new w 2 #[.int .i64 y]).cell 0⟩⟩

set_option maxRecDepth 100000 in
set_option maxHeartbeats 16000000 in
theorem walk_FnYearMarks (A : Option Addr) (len cap : Nat) (zs : List Int) (W : World) (hrow : IsRow .u8 W A len cap zs) :
    Calls Try.prog 4 #[.slice A len cap] W (Bl true W) := by
  have hm : len ≤ maxLen := by
    rcases hrow with ⟨_, rfl, _⟩ | ⟨_, _, h1, h2, _⟩
    · exact Nat.zero_le _
    · omega
  have HR := Lib.hid hrow
  clear hrow
  have bel := Below.refl W.heap.size W
  by_cases hbig : 4096 < len
  · go_enter Try.func4, Try.ntmps4
    go_wp2_with fail
    refine (laws_big8 A len cap hm _).mono ?_
    rintro e w1 ⟨rfl, rfl⟩
    go_wp2_with fail
    go_ret
    exact ⟨rfl, Below.refl _ _⟩
  go_enter Try.func4, Try.ntmps4
  go_wp2_with fail
  refine (laws_big8 A len cap hm _).mono ?_
  rintro e w1 ⟨rfl, rfl⟩
  go_wp2_with fail
  refine (spec_DrawMarkOf A len cap zs W _ HR.out bel).mono ?_
  rintro e9 wq ⟨y, rfl, ⟨y0, y1⟩, hb⟩
  replace bel := bel.trans (hb.mono bel.size)
  clear hb
  obtain ⟨i, p, c, E1, I1, S1, I2, S2, I3, S3, H1⟩ := mk_pack y
  go_wp2_with fail
  refine (I1.out _).mono ?_
  rintro e9 wm1 ⟨rfl, hb⟩
  replace bel := bel.trans (hb.mono bel.size)
  clear hb
  replace bel := bel.alloc bel.size (.cells #[.int .i64 i, .int .i64 p, .int .i64 c] 42)
  have M4 := Blk.new wm1 42 #[.int .i64 i, .int .i64 p, .int .i64 c]
  go_wp2_with fail
  refine (S1.out _).mono ?_
  rintro e9 wm2 ⟨rfl, hb⟩
  replace bel := bel.trans (hb.mono bel.size)
  replace M4 := M4.below hb M4.lt
  clear hb
  replace bel := bel.alloc bel.size (.cells #[.int .i64 i, .int .i64 p, .int .i64 c] 42)
  replace M4 := M4.alloc (.cells #[.int .i64 i, .int .i64 p, .int .i64 c] 42)
  have M6 := Blk.new wm2 42 #[.int .i64 i, .int .i64 p, .int .i64 c]
  go_wp2_with fail
  refine (I2.out _).mono ?_
  rintro e9 wq ⟨rfl, hb⟩
  replace bel := bel.trans (hb.mono bel.size)
  replace M4 := M4.below hb M4.lt
  replace M6 := M6.below hb M6.lt
  clear hb
  go_wp2_with fail
  refine (S2.out _).mono ?_
  rintro e9 wq ⟨rfl, hb⟩
  replace bel := bel.trans (hb.mono bel.size)
  replace M4 := M4.below hb M4.lt
  replace M6 := M6.below hb M6.lt
  clear hb
  go_wp2_with fail
  refine (I3.out _).mono ?_
  rintro e9 wq ⟨rfl, hb⟩
  replace bel := bel.trans (hb.mono bel.size)
  replace M4 := M4.below hb M4.lt
  replace M6 := M6.below hb M6.lt
  clear hb
  go_wp2_with fail
  refine (S3.out _).mono ?_
  rintro e9 wq ⟨rfl, hb⟩
  replace bel := bel.trans (hb.mono bel.size)
  replace M4 := M4.below hb M4.lt
  replace M6 := M6.below hb M6.lt
  clear hb
  clear I1 S1 I2 S2 I3 S3
  go_wp2_with fail
  refine (spec_DrawYearsMarked A len cap zs W _ HR.out bel).mono ?_
  rintro e9 wm3 ⟨a, e, d, f, t, rfl, -, -, -, -, -, hb⟩
  replace bel := bel.trans (hb.mono bel.size)
  replace M4 := M4.below hb M4.lt
  replace M6 := M6.below hb M6.lt
  clear hb
  unfold mV
  replace bel := bel.alloc bel.size (.cells #[.int .i64 a, .int .i64 e, .int .i64 d] 42)
  replace M4 := M4.alloc (.cells #[.int .i64 a, .int .i64 e, .int .i64 d] 42)
  replace M6 := M6.alloc (.cells #[.int .i64 a, .int .i64 e, .int .i64 d] 42)
  have M16 := Blk.new wm3 42 #[.int .i64 a, .int .i64 e, .int .i64 d]
  obtain ⟨V, E2, bv, HN, I4, S4, J1, J2, H2⟩ := ym_pack a e d f t
  obtain ⟨c0, c1, c2⟩ := M16.three
  go_wp2_with fail
  refine (I4.out _).mono ?_
  rintro e9 wq ⟨AG, cG, rfl, RG, hb⟩
  replace bel := bel.trans (hb.mono bel.size)
  replace M4 := M4.below hb M4.lt
  replace M6 := M6.below hb M6.lt
  replace M16 := M16.below hb M16.lt
  clear hb c0 c1 c2
  replace RG := RG.rd
  obtain ⟨c0, c1, c2⟩ := M16.three
  go_wp2_with fail
  refine (S4.out _).mono ?_
  rintro e9 wz ⟨AW, cW, rfl, RW, hb⟩
  replace bel := bel.trans (hb.mono bel.size)
  replace M4 := M4.below hb M4.lt
  replace M6 := M6.below hb M6.lt
  replace M16 := M16.below hb M16.lt
  replace RG := RG.below hb
  clear hb c0 c1 c2
  replace RW := RW.rd
  clear I4 S4 HR
  have hne := neq_mark i p c
  have hgd : Try.prog.eqGuardType Try.prog.depth 42 = false := by kernel_rfl
  obtain ⟨m40, m41, m42⟩ := M4.drew.three
  obtain ⟨m60, m61, m62⟩ := M6.drew.three
  obtain ⟨n0, n1, n2⟩ := M16.drew.three
  have HF := And.intro m40 (And.intro m41 (And.intro m42 (And.intro m60 (And.intro m61 (And.intro m62 (And.intro n0 (And.intro n1 (And.intro n2 (And.intro (RG.below (Below.refl _ _).drew) (And.intro (RW.below (Below.refl _ _).drew) bel.drew))))))))))
  clear m40 m41 m42 m60 m61 m62 n0 n1 n2 RG RW M4 M6 M16 bel
  obtain ⟨N, hN2⟩ : ∃ N, V.length = N := ⟨_, rfl⟩
  have hN := HN.out
  rw [hN2] at HF hN ⊢
  · skip
    go_wp2_with fail
    generalize wm1.heap.size = g4 at HF ⊢
    generalize wm2.heap.size = g6 at HF ⊢
    generalize wm3.heap.size = g16 at HF ⊢
    go_region_held3 (fun w' => w'.cell? ⟨g4, 0, none⟩ = some (.int .i64 i) ∧ w'.cell? ⟨g4, 1, none⟩ = some (.int .i64 p) ∧ w'.cell? ⟨g4, 2, none⟩ = some (.int .i64 c) ∧ w'.cell? ⟨g6, 0, none⟩ = some (.int .i64 i) ∧ w'.cell? ⟨g6, 1, none⟩ = some (.int .i64 p) ∧ w'.cell? ⟨g6, 2, none⟩ = some (.int .i64 c) ∧
        w'.cell? ⟨g16, 0, none⟩ = some (.int .i64 a) ∧ w'.cell? ⟨g16, 1, none⟩ = some (.int .i64 e) ∧ w'.cell? ⟨g16, 2, none⟩ = some (.int .i64 d) ∧ Ints.Rd w' AG N V ∧ Ints.Rd w' AW N V ∧ Below W.heap.size W w')
      (first | exact HF | exact HQ1 | exact HQ2 | exact HQ3)
      (first
        | (go_at_call 37; refine (Ints.laws_likeInts AG AW N _ _ V hN _ HF.2.2.2.2.2.2.2.2.2.1 HF.2.2.2.2.2.2.2.2.2.2.1).mono ?_; rintro e9 wq ⟨rfl, hq⟩; have HQ1 := keepM hq HF)
        | (go_at_call 38; refine (J1.out _).mono ?_; rintro e9 wq ⟨rfl, hq2⟩; have HQ2 := keepM hq2 HQ1)
        | (go_at_call 39; refine (J2.out _).mono ?_; rintro e9 wq ⟨rfl, hq3⟩; have HQ3 := keepM hq3 HQ2))
    obtain ⟨m40, m41, m42, -, -, -, n0, n1, n2, RG, -, bel⟩ := HQ3
    clear HQ1 HQ2 HF J1 J2 hq hq2 hq3 hne hgd
    rcases H2.out with e2 | ⟨rfl, FX⟩
    · clear H2
      go_wp2_with fail
      go_loopg [23] 0 (fun k v wr => v = .int .i64 0 ∧ k = 0 ∧ Below wq.heap.size wq wr)
      case atStart => exact ⟨rfl, rfl, Below.refl _ _⟩
      case round =>
        obtain ⟨rfl, hk, hb9⟩ := hrel
        have b9 := bel.trans (hb9.mono bel.size)
        have q40 := cell_keep hb9 m40
        have q41 := cell_keep hb9 m41
        have q42 := cell_keep hb9 m42
        rcases H1.out with e1 | ⟨rfl, Q⟩
        · clear H1
          go_wp2_with fail
          go_ret
          exact ⟨rfl, b9⟩
        · clear H1
          go_wp2_with fail
          refine (Q.out _).mono ?_
          rintro e9 wb ⟨AB, cB, rfl, RB, hb⟩
          have k40 := cell_keep hb q40
          have k41 := cell_keep hb q41
          have k42 := cell_keep hb q42
          have hbe := (b9).trans (hb.mono (b9).size)
          replace RB := RB.rd
          have r1 := rd_one wb y
          have ha := ((Below.refl wb.heap.size wb).alloc (Nat.le_refl _) (.cells #[.int .i64 y] 2))
          have k41' := cell_keep ha k41
          have k42' := cell_keep ha k42
          have RB' := RB.below ha
          have hbe' := hbe.alloc hbe.size (.cells #[.int .i64 y] 2)
          clear k40 hb hbe RB ha Q k41 k42
          go_wp2_with fail
          refine (Ints.laws_likeInts AB (some ⟨wb.heap.size, 0, none⟩) 1 _ _ [y] (by omega) _ RB' r1).mono ?_
          rintro e9 wc ⟨rfl, hb⟩
          have j41 := cell_keep hb k41'
          have j42 := cell_keep hb k42'
          have hbf := hbe'.trans (hb.mono hbe'.size)
          clear k41' k42' hb hbe' r1 RB'
          go_wp2_with fail
          go_ret
          exact ⟨rfl, hbf⟩
    · by_cases ha : 0 < a
      · by_cases he : 0 ≤ e
        · by_cases hd : 0 < d
          · go_wp2_with fail
            go_loopg [23] N (fun k v wr => ∃ n3 : Nat, v = .int .i64 n3 ∧ k = N - n3 ∧ n3 ≤ N ∧ Below wq.heap.size wq wr)
            case atStart => exact ⟨0, rfl, by omega, by omega, Below.refl _ _⟩
            case round =>
              obtain ⟨n3, rfl, hk, hn, hb9⟩ := hrel
              subst hk
              have RR := RG.below hb9
              have u0 := cell_keep hb9 n0
              have u1 := cell_keep hb9 n1
              have u2 := cell_keep hb9 n2
              by_cases hlt : n3 < N
              · obtain ⟨G, off, hl, rfl, hg, cc⟩ := RR.at_ hlt
                obtain ⟨p2, q2, r2, hpa, hpe, hpc, FM⟩ := FX V[n3] (List.getElem_mem hl)
                generalize V[n3] = x5 at cc FM
                clear hl FX RR H1 H2
                have za := (hpa ha).symm
                subst za
                have ze := (hpe he).symm
                subst ze
                have zc := (hpc hd).symm
                subst zc
                clear hpa hpe hpc
                go_wp2_with fail
                refine (FM.out _).mono ?_
                rintro e9 w5 ⟨rfl, hb⟩
                have hx := hb.alloc hb.size (.cells #[.int .i64 a, .int .i64 e, .int .i64 d] 42)
                have v0 := cell_keep hx u0
                have v1 := cell_keep hx u1
                have v2 := cell_keep hx u2
                have h9 := hb9.trans (hx.mono hb9.size)
                obtain ⟨z0, z1, z2⟩ := (Blk.new w5 42 #[.int .i64 a, .int .i64 e, .int .i64 d]).three
                clear u0 u1 u2 hb hx hb9 cc hg FM
                go_wp2_with fail
                go_roundg (N - (n3 + 1))
                case measure => omega
                case rel => exact ⟨n3 + 1, by go_num, by omega, by omega, h9⟩
              · have e9 : n3 = N := by omega
                subst e9
                clear FX RR u0 u1 u2
                have b9 := bel.trans (hb9.mono bel.size)
                have q40 := cell_keep hb9 m40
                have q41 := cell_keep hb9 m41
                have q42 := cell_keep hb9 m42
                rcases H1.out with e1 | ⟨rfl, Q⟩
                · clear H1
                  go_wp2_with fail
                  go_ret
                  exact ⟨rfl, b9⟩
                · clear H1
                  go_wp2_with fail
                  refine (Q.out _).mono ?_
                  rintro e9 wb ⟨AB, cB, rfl, RB, hb⟩
                  have k40 := cell_keep hb q40
                  have k41 := cell_keep hb q41
                  have k42 := cell_keep hb q42
                  have hbe := (b9).trans (hb.mono (b9).size)
                  replace RB := RB.rd
                  have r1 := rd_one wb y
                  have ha := ((Below.refl wb.heap.size wb).alloc (Nat.le_refl _) (.cells #[.int .i64 y] 2))
                  have k41' := cell_keep ha k41
                  have k42' := cell_keep ha k42
                  have RB' := RB.below ha
                  have hbe' := hbe.alloc hbe.size (.cells #[.int .i64 y] 2)
                  clear k40 hb hbe RB ha Q k41 k42
                  go_wp2_with fail
                  refine (Ints.laws_likeInts AB (some ⟨wb.heap.size, 0, none⟩) 1 _ _ [y] (by omega) _ RB' r1).mono ?_
                  rintro e9 wc ⟨rfl, hb⟩
                  have j41 := cell_keep hb k41'
                  have j42 := cell_keep hb k42'
                  have hbf := hbe'.trans (hb.mono hbe'.size)
                  clear k41' k42' hb hbe' r1 RB'
                  go_wp2_with fail
                  go_ret
                  exact ⟨rfl, hbf⟩
          · have nd : decide (0 < d) = false := by simpa using hd
            go_wp2_with fail
            go_loopg [23] N (fun k v wr => ∃ n3 : Nat, v = .int .i64 n3 ∧ k = N - n3 ∧ n3 ≤ N ∧ Below wq.heap.size wq wr)
            case atStart => exact ⟨0, rfl, by omega, by omega, Below.refl _ _⟩
            case round =>
              obtain ⟨n3, rfl, hk, hn, hb9⟩ := hrel
              subst hk
              have RR := RG.below hb9
              have u0 := cell_keep hb9 n0
              have u1 := cell_keep hb9 n1
              have u2 := cell_keep hb9 n2
              by_cases hlt : n3 < N
              · obtain ⟨G, off, hl, rfl, hg, cc⟩ := RR.at_ hlt
                obtain ⟨p2, q2, r2, hpa, hpe, hpc, FM⟩ := FX V[n3] (List.getElem_mem hl)
                generalize V[n3] = x5 at cc FM
                clear hl FX RR H1 H2
                have za := (hpa ha).symm
                subst za
                have ze := (hpe he).symm
                subst ze
                clear hpa hpe hpc
                go_wp2_with fail
                refine (FM.out _).mono ?_
                rintro e9 w5 ⟨rfl, hb⟩
                have hx := hb.alloc hb.size (.cells #[.int .i64 a, .int .i64 e, .int .i64 r2] 42)
                have v0 := cell_keep hx u0
                have v1 := cell_keep hx u1
                have v2 := cell_keep hx u2
                have h9 := hb9.trans (hx.mono hb9.size)
                obtain ⟨z0, z1, z2⟩ := (Blk.new w5 42 #[.int .i64 a, .int .i64 e, .int .i64 r2]).three
                clear u0 u1 u2 hb hx hb9 cc hg FM
                go_wp2_with fail
                go_roundg (N - (n3 + 1))
                case measure => omega
                case rel => exact ⟨n3 + 1, by go_num, by omega, by omega, h9⟩
              · have e9 : n3 = N := by omega
                subst e9
                clear FX RR u0 u1 u2
                have b9 := bel.trans (hb9.mono bel.size)
                have q40 := cell_keep hb9 m40
                have q41 := cell_keep hb9 m41
                have q42 := cell_keep hb9 m42
                rcases H1.out with e1 | ⟨rfl, Q⟩
                · clear H1
                  go_wp2_with fail
                  go_ret
                  exact ⟨rfl, b9⟩
                · clear H1
                  go_wp2_with fail
                  refine (Q.out _).mono ?_
                  rintro e9 wb ⟨AB, cB, rfl, RB, hb⟩
                  have k40 := cell_keep hb q40
                  have k41 := cell_keep hb q41
                  have k42 := cell_keep hb q42
                  have hbe := (b9).trans (hb.mono (b9).size)
                  replace RB := RB.rd
                  have r1 := rd_one wb y
                  have ha := ((Below.refl wb.heap.size wb).alloc (Nat.le_refl _) (.cells #[.int .i64 y] 2))
                  have k41' := cell_keep ha k41
                  have k42' := cell_keep ha k42
                  have RB' := RB.below ha
                  have hbe' := hbe.alloc hbe.size (.cells #[.int .i64 y] 2)
                  clear k40 hb hbe RB ha Q k41 k42
                  go_wp2_with fail
                  refine (Ints.laws_likeInts AB (some ⟨wb.heap.size, 0, none⟩) 1 _ _ [y] (by omega) _ RB' r1).mono ?_
                  rintro e9 wc ⟨rfl, hb⟩
                  have j41 := cell_keep hb k41'
                  have j42 := cell_keep hb k42'
                  have hbf := hbe'.trans (hb.mono hbe'.size)
                  clear k41' k42' hb hbe' r1 RB'
                  go_wp2_with fail
                  go_ret
                  exact ⟨rfl, hbf⟩
        · have ne9 : decide (0 ≤ e) = false := by simpa using he
          by_cases hd : 0 < d
          · go_wp2_with fail
            go_loopg [23] N (fun k v wr => ∃ n3 : Nat, v = .int .i64 n3 ∧ k = N - n3 ∧ n3 ≤ N ∧ Below wq.heap.size wq wr)
            case atStart => exact ⟨0, rfl, by omega, by omega, Below.refl _ _⟩
            case round =>
              obtain ⟨n3, rfl, hk, hn, hb9⟩ := hrel
              subst hk
              have RR := RG.below hb9
              have u0 := cell_keep hb9 n0
              have u1 := cell_keep hb9 n1
              have u2 := cell_keep hb9 n2
              by_cases hlt : n3 < N
              · obtain ⟨G, off, hl, rfl, hg, cc⟩ := RR.at_ hlt
                obtain ⟨p2, q2, r2, hpa, hpe, hpc, FM⟩ := FX V[n3] (List.getElem_mem hl)
                generalize V[n3] = x5 at cc FM
                clear hl FX RR H1 H2
                have za := (hpa ha).symm
                subst za
                have zc := (hpc hd).symm
                subst zc
                clear hpa hpe hpc
                go_wp2_with fail
                refine (FM.out _).mono ?_
                rintro e9 w5 ⟨rfl, hb⟩
                have hx := hb.alloc hb.size (.cells #[.int .i64 a, .int .i64 q2, .int .i64 d] 42)
                have v0 := cell_keep hx u0
                have v1 := cell_keep hx u1
                have v2 := cell_keep hx u2
                have h9 := hb9.trans (hx.mono hb9.size)
                obtain ⟨z0, z1, z2⟩ := (Blk.new w5 42 #[.int .i64 a, .int .i64 q2, .int .i64 d]).three
                clear u0 u1 u2 hb hx hb9 cc hg FM
                go_wp2_with fail
                go_roundg (N - (n3 + 1))
                case measure => omega
                case rel => exact ⟨n3 + 1, by go_num, by omega, by omega, h9⟩
              · have e9 : n3 = N := by omega
                subst e9
                clear FX RR u0 u1 u2
                have b9 := bel.trans (hb9.mono bel.size)
                have q40 := cell_keep hb9 m40
                have q41 := cell_keep hb9 m41
                have q42 := cell_keep hb9 m42
                rcases H1.out with e1 | ⟨rfl, Q⟩
                · clear H1
                  go_wp2_with fail
                  go_ret
                  exact ⟨rfl, b9⟩
                · clear H1
                  go_wp2_with fail
                  refine (Q.out _).mono ?_
                  rintro e9 wb ⟨AB, cB, rfl, RB, hb⟩
                  have k40 := cell_keep hb q40
                  have k41 := cell_keep hb q41
                  have k42 := cell_keep hb q42
                  have hbe := (b9).trans (hb.mono (b9).size)
                  replace RB := RB.rd
                  have r1 := rd_one wb y
                  have ha := ((Below.refl wb.heap.size wb).alloc (Nat.le_refl _) (.cells #[.int .i64 y] 2))
                  have k41' := cell_keep ha k41
                  have k42' := cell_keep ha k42
                  have RB' := RB.below ha
                  have hbe' := hbe.alloc hbe.size (.cells #[.int .i64 y] 2)
                  clear k40 hb hbe RB ha Q k41 k42
                  go_wp2_with fail
                  refine (Ints.laws_likeInts AB (some ⟨wb.heap.size, 0, none⟩) 1 _ _ [y] (by omega) _ RB' r1).mono ?_
                  rintro e9 wc ⟨rfl, hb⟩
                  have j41 := cell_keep hb k41'
                  have j42 := cell_keep hb k42'
                  have hbf := hbe'.trans (hb.mono hbe'.size)
                  clear k41' k42' hb hbe' r1 RB'
                  go_wp2_with fail
                  go_ret
                  exact ⟨rfl, hbf⟩
          · have nd : decide (0 < d) = false := by simpa using hd
            go_wp2_with fail
            go_loopg [23] N (fun k v wr => ∃ n3 : Nat, v = .int .i64 n3 ∧ k = N - n3 ∧ n3 ≤ N ∧ Below wq.heap.size wq wr)
            case atStart => exact ⟨0, rfl, by omega, by omega, Below.refl _ _⟩
            case round =>
              obtain ⟨n3, rfl, hk, hn, hb9⟩ := hrel
              subst hk
              have RR := RG.below hb9
              have u0 := cell_keep hb9 n0
              have u1 := cell_keep hb9 n1
              have u2 := cell_keep hb9 n2
              by_cases hlt : n3 < N
              · obtain ⟨G, off, hl, rfl, hg, cc⟩ := RR.at_ hlt
                obtain ⟨p2, q2, r2, hpa, hpe, hpc, FM⟩ := FX V[n3] (List.getElem_mem hl)
                generalize V[n3] = x5 at cc FM
                clear hl FX RR H1 H2
                have za := (hpa ha).symm
                subst za
                clear hpa hpe hpc
                go_wp2_with fail
                refine (FM.out _).mono ?_
                rintro e9 w5 ⟨rfl, hb⟩
                have hx := hb.alloc hb.size (.cells #[.int .i64 a, .int .i64 q2, .int .i64 r2] 42)
                have v0 := cell_keep hx u0
                have v1 := cell_keep hx u1
                have v2 := cell_keep hx u2
                have h9 := hb9.trans (hx.mono hb9.size)
                obtain ⟨z0, z1, z2⟩ := (Blk.new w5 42 #[.int .i64 a, .int .i64 q2, .int .i64 r2]).three
                clear u0 u1 u2 hb hx hb9 cc hg FM
                go_wp2_with fail
                go_roundg (N - (n3 + 1))
                case measure => omega
                case rel => exact ⟨n3 + 1, by go_num, by omega, by omega, h9⟩
              · have e9 : n3 = N := by omega
                subst e9
                clear FX RR u0 u1 u2
                have b9 := bel.trans (hb9.mono bel.size)
                have q40 := cell_keep hb9 m40
                have q41 := cell_keep hb9 m41
                have q42 := cell_keep hb9 m42
                rcases H1.out with e1 | ⟨rfl, Q⟩
                · clear H1
                  go_wp2_with fail
                  go_ret
                  exact ⟨rfl, b9⟩
                · clear H1
                  go_wp2_with fail
                  refine (Q.out _).mono ?_
                  rintro e9 wb ⟨AB, cB, rfl, RB, hb⟩
                  have k40 := cell_keep hb q40
                  have k41 := cell_keep hb q41
                  have k42 := cell_keep hb q42
                  have hbe := (b9).trans (hb.mono (b9).size)
                  replace RB := RB.rd
                  have r1 := rd_one wb y
                  have ha := ((Below.refl wb.heap.size wb).alloc (Nat.le_refl _) (.cells #[.int .i64 y] 2))
                  have k41' := cell_keep ha k41
                  have k42' := cell_keep ha k42
                  have RB' := RB.below ha
                  have hbe' := hbe.alloc hbe.size (.cells #[.int .i64 y] 2)
                  clear k40 hb hbe RB ha Q k41 k42
                  go_wp2_with fail
                  refine (Ints.laws_likeInts AB (some ⟨wb.heap.size, 0, none⟩) 1 _ _ [y] (by omega) _ RB' r1).mono ?_
                  rintro e9 wc ⟨rfl, hb⟩
                  have j41 := cell_keep hb k41'
                  have j42 := cell_keep hb k42'
                  have hbf := hbe'.trans (hb.mono hbe'.size)
                  clear k41' k42' hb hbe' r1 RB'
                  go_wp2_with fail
                  go_ret
                  exact ⟨rfl, hbf⟩
      · have na : decide (0 < a) = false := by simpa using ha
        by_cases he : 0 ≤ e
        · by_cases hd : 0 < d
          · go_wp2_with fail
            go_loopg [23] N (fun k v wr => ∃ n3 : Nat, v = .int .i64 n3 ∧ k = N - n3 ∧ n3 ≤ N ∧ Below wq.heap.size wq wr)
            case atStart => exact ⟨0, rfl, by omega, by omega, Below.refl _ _⟩
            case round =>
              obtain ⟨n3, rfl, hk, hn, hb9⟩ := hrel
              subst hk
              have RR := RG.below hb9
              have u0 := cell_keep hb9 n0
              have u1 := cell_keep hb9 n1
              have u2 := cell_keep hb9 n2
              by_cases hlt : n3 < N
              · obtain ⟨G, off, hl, rfl, hg, cc⟩ := RR.at_ hlt
                obtain ⟨p2, q2, r2, hpa, hpe, hpc, FM⟩ := FX V[n3] (List.getElem_mem hl)
                generalize V[n3] = x5 at cc FM
                clear hl FX RR H1 H2
                have ze := (hpe he).symm
                subst ze
                have zc := (hpc hd).symm
                subst zc
                clear hpa hpe hpc
                go_wp2_with fail
                refine (FM.out _).mono ?_
                rintro e9 w5 ⟨rfl, hb⟩
                have hx := hb.alloc hb.size (.cells #[.int .i64 p2, .int .i64 e, .int .i64 d] 42)
                have v0 := cell_keep hx u0
                have v1 := cell_keep hx u1
                have v2 := cell_keep hx u2
                have h9 := hb9.trans (hx.mono hb9.size)
                obtain ⟨z0, z1, z2⟩ := (Blk.new w5 42 #[.int .i64 p2, .int .i64 e, .int .i64 d]).three
                clear u0 u1 u2 hb hx hb9 cc hg FM
                go_wp2_with fail
                go_roundg (N - (n3 + 1))
                case measure => omega
                case rel => exact ⟨n3 + 1, by go_num, by omega, by omega, h9⟩
              · have e9 : n3 = N := by omega
                subst e9
                clear FX RR u0 u1 u2
                have b9 := bel.trans (hb9.mono bel.size)
                have q40 := cell_keep hb9 m40
                have q41 := cell_keep hb9 m41
                have q42 := cell_keep hb9 m42
                rcases H1.out with e1 | ⟨rfl, Q⟩
                · clear H1
                  go_wp2_with fail
                  go_ret
                  exact ⟨rfl, b9⟩
                · clear H1
                  go_wp2_with fail
                  refine (Q.out _).mono ?_
                  rintro e9 wb ⟨AB, cB, rfl, RB, hb⟩
                  have k40 := cell_keep hb q40
                  have k41 := cell_keep hb q41
                  have k42 := cell_keep hb q42
                  have hbe := (b9).trans (hb.mono (b9).size)
                  replace RB := RB.rd
                  have r1 := rd_one wb y
                  have ha := ((Below.refl wb.heap.size wb).alloc (Nat.le_refl _) (.cells #[.int .i64 y] 2))
                  have k41' := cell_keep ha k41
                  have k42' := cell_keep ha k42
                  have RB' := RB.below ha
                  have hbe' := hbe.alloc hbe.size (.cells #[.int .i64 y] 2)
                  clear k40 hb hbe RB ha Q k41 k42
                  go_wp2_with fail
                  refine (Ints.laws_likeInts AB (some ⟨wb.heap.size, 0, none⟩) 1 _ _ [y] (by omega) _ RB' r1).mono ?_
                  rintro e9 wc ⟨rfl, hb⟩
                  have j41 := cell_keep hb k41'
                  have j42 := cell_keep hb k42'
                  have hbf := hbe'.trans (hb.mono hbe'.size)
                  clear k41' k42' hb hbe' r1 RB'
                  go_wp2_with fail
                  go_ret
                  exact ⟨rfl, hbf⟩
          · have nd : decide (0 < d) = false := by simpa using hd
            go_wp2_with fail
            go_loopg [23] N (fun k v wr => ∃ n3 : Nat, v = .int .i64 n3 ∧ k = N - n3 ∧ n3 ≤ N ∧ Below wq.heap.size wq wr)
            case atStart => exact ⟨0, rfl, by omega, by omega, Below.refl _ _⟩
            case round =>
              obtain ⟨n3, rfl, hk, hn, hb9⟩ := hrel
              subst hk
              have RR := RG.below hb9
              have u0 := cell_keep hb9 n0
              have u1 := cell_keep hb9 n1
              have u2 := cell_keep hb9 n2
              by_cases hlt : n3 < N
              · obtain ⟨G, off, hl, rfl, hg, cc⟩ := RR.at_ hlt
                obtain ⟨p2, q2, r2, hpa, hpe, hpc, FM⟩ := FX V[n3] (List.getElem_mem hl)
                generalize V[n3] = x5 at cc FM
                clear hl FX RR H1 H2
                have ze := (hpe he).symm
                subst ze
                clear hpa hpe hpc
                go_wp2_with fail
                refine (FM.out _).mono ?_
                rintro e9 w5 ⟨rfl, hb⟩
                have hx := hb.alloc hb.size (.cells #[.int .i64 p2, .int .i64 e, .int .i64 r2] 42)
                have v0 := cell_keep hx u0
                have v1 := cell_keep hx u1
                have v2 := cell_keep hx u2
                have h9 := hb9.trans (hx.mono hb9.size)
                obtain ⟨z0, z1, z2⟩ := (Blk.new w5 42 #[.int .i64 p2, .int .i64 e, .int .i64 r2]).three
                clear u0 u1 u2 hb hx hb9 cc hg FM
                go_wp2_with fail
                go_roundg (N - (n3 + 1))
                case measure => omega
                case rel => exact ⟨n3 + 1, by go_num, by omega, by omega, h9⟩
              · have e9 : n3 = N := by omega
                subst e9
                clear FX RR u0 u1 u2
                have b9 := bel.trans (hb9.mono bel.size)
                have q40 := cell_keep hb9 m40
                have q41 := cell_keep hb9 m41
                have q42 := cell_keep hb9 m42
                rcases H1.out with e1 | ⟨rfl, Q⟩
                · clear H1
                  go_wp2_with fail
                  go_ret
                  exact ⟨rfl, b9⟩
                · clear H1
                  go_wp2_with fail
                  refine (Q.out _).mono ?_
                  rintro e9 wb ⟨AB, cB, rfl, RB, hb⟩
                  have k40 := cell_keep hb q40
                  have k41 := cell_keep hb q41
                  have k42 := cell_keep hb q42
                  have hbe := (b9).trans (hb.mono (b9).size)
                  replace RB := RB.rd
                  have r1 := rd_one wb y
                  have ha := ((Below.refl wb.heap.size wb).alloc (Nat.le_refl _) (.cells #[.int .i64 y] 2))
                  have k41' := cell_keep ha k41
                  have k42' := cell_keep ha k42
                  have RB' := RB.below ha
                  have hbe' := hbe.alloc hbe.size (.cells #[.int .i64 y] 2)
                  clear k40 hb hbe RB ha Q k41 k42
                  go_wp2_with fail
                  refine (Ints.laws_likeInts AB (some ⟨wb.heap.size, 0, none⟩) 1 _ _ [y] (by omega) _ RB' r1).mono ?_
                  rintro e9 wc ⟨rfl, hb⟩
                  have j41 := cell_keep hb k41'
                  have j42 := cell_keep hb k42'
                  have hbf := hbe'.trans (hb.mono hbe'.size)
                  clear k41' k42' hb hbe' r1 RB'
                  go_wp2_with fail
                  go_ret
                  exact ⟨rfl, hbf⟩
        · have ne9 : decide (0 ≤ e) = false := by simpa using he
          by_cases hd : 0 < d
          · go_wp2_with fail
            go_loopg [23] N (fun k v wr => ∃ n3 : Nat, v = .int .i64 n3 ∧ k = N - n3 ∧ n3 ≤ N ∧ Below wq.heap.size wq wr)
            case atStart => exact ⟨0, rfl, by omega, by omega, Below.refl _ _⟩
            case round =>
              obtain ⟨n3, rfl, hk, hn, hb9⟩ := hrel
              subst hk
              have RR := RG.below hb9
              have u0 := cell_keep hb9 n0
              have u1 := cell_keep hb9 n1
              have u2 := cell_keep hb9 n2
              by_cases hlt : n3 < N
              · obtain ⟨G, off, hl, rfl, hg, cc⟩ := RR.at_ hlt
                obtain ⟨p2, q2, r2, hpa, hpe, hpc, FM⟩ := FX V[n3] (List.getElem_mem hl)
                generalize V[n3] = x5 at cc FM
                clear hl FX RR H1 H2
                have zc := (hpc hd).symm
                subst zc
                clear hpa hpe hpc
                go_wp2_with fail
                refine (FM.out _).mono ?_
                rintro e9 w5 ⟨rfl, hb⟩
                have hx := hb.alloc hb.size (.cells #[.int .i64 p2, .int .i64 q2, .int .i64 d] 42)
                have v0 := cell_keep hx u0
                have v1 := cell_keep hx u1
                have v2 := cell_keep hx u2
                have h9 := hb9.trans (hx.mono hb9.size)
                obtain ⟨z0, z1, z2⟩ := (Blk.new w5 42 #[.int .i64 p2, .int .i64 q2, .int .i64 d]).three
                clear u0 u1 u2 hb hx hb9 cc hg FM
                go_wp2_with fail
                go_roundg (N - (n3 + 1))
                case measure => omega
                case rel => exact ⟨n3 + 1, by go_num, by omega, by omega, h9⟩
              · have e9 : n3 = N := by omega
                subst e9
                clear FX RR u0 u1 u2
                have b9 := bel.trans (hb9.mono bel.size)
                have q40 := cell_keep hb9 m40
                have q41 := cell_keep hb9 m41
                have q42 := cell_keep hb9 m42
                rcases H1.out with e1 | ⟨rfl, Q⟩
                · clear H1
                  go_wp2_with fail
                  go_ret
                  exact ⟨rfl, b9⟩
                · clear H1
                  go_wp2_with fail
                  refine (Q.out _).mono ?_
                  rintro e9 wb ⟨AB, cB, rfl, RB, hb⟩
                  have k40 := cell_keep hb q40
                  have k41 := cell_keep hb q41
                  have k42 := cell_keep hb q42
                  have hbe := (b9).trans (hb.mono (b9).size)
                  replace RB := RB.rd
                  have r1 := rd_one wb y
                  have ha := ((Below.refl wb.heap.size wb).alloc (Nat.le_refl _) (.cells #[.int .i64 y] 2))
                  have k41' := cell_keep ha k41
                  have k42' := cell_keep ha k42
                  have RB' := RB.below ha
                  have hbe' := hbe.alloc hbe.size (.cells #[.int .i64 y] 2)
                  clear k40 hb hbe RB ha Q k41 k42
                  go_wp2_with fail
                  refine (Ints.laws_likeInts AB (some ⟨wb.heap.size, 0, none⟩) 1 _ _ [y] (by omega) _ RB' r1).mono ?_
                  rintro e9 wc ⟨rfl, hb⟩
                  have j41 := cell_keep hb k41'
                  have j42 := cell_keep hb k42'
                  have hbf := hbe'.trans (hb.mono hbe'.size)
                  clear k41' k42' hb hbe' r1 RB'
                  go_wp2_with fail
                  go_ret
                  exact ⟨rfl, hbf⟩
          · have nd : decide (0 < d) = false := by simpa using hd
            go_wp2_with fail
            go_loopg [23] N (fun k v wr => ∃ n3 : Nat, v = .int .i64 n3 ∧ k = N - n3 ∧ n3 ≤ N ∧ Below wq.heap.size wq wr)
            case atStart => exact ⟨0, rfl, by omega, by omega, Below.refl _ _⟩
            case round =>
              obtain ⟨n3, rfl, hk, hn, hb9⟩ := hrel
              subst hk
              have RR := RG.below hb9
              have u0 := cell_keep hb9 n0
              have u1 := cell_keep hb9 n1
              have u2 := cell_keep hb9 n2
              by_cases hlt : n3 < N
              · obtain ⟨G, off, hl, rfl, hg, cc⟩ := RR.at_ hlt
                obtain ⟨p2, q2, r2, hpa, hpe, hpc, FM⟩ := FX V[n3] (List.getElem_mem hl)
                generalize V[n3] = x5 at cc FM
                clear hl FX RR H1 H2
                clear hpa hpe hpc
                go_wp2_with fail
                refine (FM.out _).mono ?_
                rintro e9 w5 ⟨rfl, hb⟩
                have hx := hb.alloc hb.size (.cells #[.int .i64 p2, .int .i64 q2, .int .i64 r2] 42)
                have v0 := cell_keep hx u0
                have v1 := cell_keep hx u1
                have v2 := cell_keep hx u2
                have h9 := hb9.trans (hx.mono hb9.size)
                obtain ⟨z0, z1, z2⟩ := (Blk.new w5 42 #[.int .i64 p2, .int .i64 q2, .int .i64 r2]).three
                clear u0 u1 u2 hb hx hb9 cc hg FM
                go_wp2_with fail
                go_roundg (N - (n3 + 1))
                case measure => omega
                case rel => exact ⟨n3 + 1, by go_num, by omega, by omega, h9⟩
              · have e9 : n3 = N := by omega
                subst e9
                clear FX RR u0 u1 u2
                have b9 := bel.trans (hb9.mono bel.size)
                have q40 := cell_keep hb9 m40
                have q41 := cell_keep hb9 m41
                have q42 := cell_keep hb9 m42
                rcases H1.out with e1 | ⟨rfl, Q⟩
                · clear H1
                  go_wp2_with fail
                  go_ret
                  exact ⟨rfl, b9⟩
                · clear H1
                  go_wp2_with fail
                  refine (Q.out _).mono ?_
                  rintro e9 wb ⟨AB, cB, rfl, RB, hb⟩
                  have k40 := cell_keep hb q40
                  have k41 := cell_keep hb q41
                  have k42 := cell_keep hb q42
                  have hbe := (b9).trans (hb.mono (b9).size)
                  replace RB := RB.rd
                  have r1 := rd_one wb y
                  have ha := ((Below.refl wb.heap.size wb).alloc (Nat.le_refl _) (.cells #[.int .i64 y] 2))
                  have k41' := cell_keep ha k41
                  have k42' := cell_keep ha k42
                  have RB' := RB.below ha
                  have hbe' := hbe.alloc hbe.size (.cells #[.int .i64 y] 2)
                  clear k40 hb hbe RB ha Q k41 k42
                  go_wp2_with fail
                  refine (Ints.laws_likeInts AB (some ⟨wb.heap.size, 0, none⟩) 1 _ _ [y] (by omega) _ RB' r1).mono ?_
                  rintro e9 wc ⟨rfl, hb⟩
                  have j41 := cell_keep hb k41'
                  have j42 := cell_keep hb k42'
                  have hbf := hbe'.trans (hb.mono hbe'.size)
                  clear k41' k42' hb hbe' r1 RB'
                  go_wp2_with fail
                  go_ret
                  exact ⟨rfl, hbf⟩

end Go.Proofs.Ytfienklaafialaa.Ind
