/- The walk of the law FnFeasts. -/
import Derived.Test.YtegoiiconhgjbaaFeaS
namespace Go.Proofs.Ytegoiiconhgjbaa.Fea
open Go.RowKit
open Go.Proofs.Ytegoiiconhgjbaa.Ints (Rd Row laws_likeInts)

set_option maxHeartbeats 400000 in
theorem laws_big4 (A : Option Addr) (len cap : Nat) (hm : len ≤ maxLen) (w : World) :
    Calls Try.prog 18 #[.slice A len cap] w fun e w' => e = .returned (.bool (decide (4096 < len))) ∧ w = w' := by
  unfold maxLen at hm
  go_enter Try.func18, Try.ntmps18
  go_wp2_with fail
  go_ret
  exact ⟨ret_bool (by simp; try omega), rfl⟩

/-- The loop over the feasts that are told. -/
def FLoop (AG : Option Addr) (V : List Int) (N : Nat) (W : World) (k : Nat) (i : Value) (wr : World) : Prop :=
  ∃ n : Nat, i = .int .i64 n ∧ k = N - n ∧ n ≤ N ∧ Rd wr AG N V ∧ Below W.heap.size W wr
/-- What the round's reads see is kept by calls that leave it alone. -/
theorem fkeep {w w' : World} {G o b N : Nat} {x y : Int} {A0 : Option Addr} {V : List Int} {W : World} (h : w.cell? ⟨G, o, none⟩ = some (.int .i64 x) ∧ w.cell? ⟨b, 0, none⟩ = some (.int .i64 y) ∧ Rd w A0 N V ∧ Below W.heap.size W w) (hG : G < w.heap.size) (hb : b < w.heap.size) (hq : Below w.heap.size w w') :
    w'.cell? ⟨G, o, none⟩ = some (.int .i64 x) ∧ w'.cell? ⟨b, 0, none⟩ = some (.int .i64 y) ∧ Rd w' A0 N V ∧ Below W.heap.size W w' :=
  ⟨(hq.cell (p := ⟨G, o, none⟩) hG).trans h.1, (hq.cell (p := ⟨b, 0, none⟩) hb).trans h.2.1, h.2.2.1.below hq, h.2.2.2.trans (hq.mono h.2.2.2.size)⟩
theorem fstart {w : World} {G o N : Nat} {x y m d : Int} {A0 : Option Addr} {V : List Int} {W : World} (c : w.cell? ⟨G, o, none⟩ = some (.int .i64 x)) (hG : G < w.heap.size) (R : Rd w A0 N V) (bel : Below W.heap.size W w) :
    let w' := (w.alloc (.cells #[.int .i64 y, .int .i64 m, .int .i64 d] 36)).drew
    (w'.cell? ⟨G, o, none⟩ = some (.int .i64 x) ∧ w'.cell? ⟨w.heap.size, 0, none⟩ = some (.int .i64 y) ∧ Rd w' A0 N V ∧ Below W.heap.size W w') ∧ G < w'.heap.size ∧ w.heap.size < w'.heap.size := by
  have k : Below w.heap.size w (w.alloc (.cells #[.int .i64 y, .int .i64 m, .int .i64 d] 36)) := (Below.refl _ _).alloc (Nat.le_refl _) _
  have k2 := k.drew
  have q := Blk.new w 36 #[.int .i64 y, .int .i64 m, .int .i64 d]
  exact ⟨⟨(k2.cell (p := ⟨G, o, none⟩) hG).trans c, q.cell 0, R.below k2, bel.trans (k2.mono bel.size)⟩, Nat.lt_of_lt_of_le hG k2.size, q.lt⟩

set_option maxRecDepth 100000 in
set_option maxHeartbeats 8000000 in
theorem walk_FnFeasts (A : Option Addr) (len cap : Nat) (zs : List Int) (W : World) (hrow : IsRow .u8 W A len cap zs) :
    Calls Try.prog 4 #[.slice A len cap] W (Bl true W) := by
  have hm : len ≤ maxLen := by
    rcases hrow with ⟨_, rfl, _⟩ | ⟨_, _, h1, h2, _⟩
    · exact Nat.zero_le _
    · omega
  have HR := Lib.hid hrow
  clear hrow
  have S := St.start W
  by_cases hbig : 4096 < len
  · go_enter Try.func4, Try.ntmps4
    go_wp2_with fail
    refine (laws_big4 A len cap hm _).mono ?_
    rintro e w1 ⟨rfl, rfl⟩
    go_wp2_with fail
    go_ret
    exact ⟨rfl, Below.refl _ _⟩
  go_enter Try.func4, Try.ntmps4
  go_wp2_with fail
  refine (laws_big4 A len cap hm _).mono ?_
  rintro e w1 ⟨rfl, rfl⟩
  go_wp2_with fail
  refine (spec_DrawRelatedDay A len cap zs W _ HR.out S.bel).mono ?_
  rintro e w1 ⟨f, r, k, y, rfl, hb⟩
  have S := S.call hb
  clear hb
  obtain ⟨N1, E1, I1, S1, H1⟩ := rel_pack f r k y
  go_wp2_with fail
  refine (I1.out _).mono ?_
  rintro e wq ⟨rfl, hb⟩
  have S := S.call hb
  clear hb
  go_wp2_with fail
  refine (S1.out _).mono ?_
  rintro e wq ⟨rfl, hb⟩
  have S := S.call hb
  clear hb
  clear I1 S1
  go_wp2_with fail
  refine (spec_DrawFeastsOn A len cap zs W _ HR.out S.bel).mono ?_
  rintro e wq ⟨d, rfl, -, hb⟩
  have S := S.call hb
  clear hb
  obtain ⟨V, E2, HN, I2, S2, H2⟩ := on_pack d
  go_wp2_with fail
  refine (I2.out _).mono ?_
  rintro e wq ⟨AG, cG, rfl, RG, hb⟩
  have S := S.call hb
  replace RG := RG.rd
  clear hb
  go_wp2_with fail
  refine (S2.out _).mono ?_
  rintro e wq ⟨AW, cW, rfl, RW, hb⟩
  have S := S.call hb
  replace RG := RG.below hb
  replace RW := RW.rd
  clear hb I2 S2
  go_wp2_with fail
  refine (spec_DrawFeastName A len cap zs W _ HR.out S.bel).mono ?_
  rintro e wq ⟨j, rfl, -, hb⟩
  have S := S.call hb
  replace RG := RG.below hb
  replace RW := RW.below hb
  clear hb
  obtain ⟨s, x, b, I3, S3, I4, H3⟩ := name_pack j
  go_wp2_with fail
  refine (I3.out _).mono ?_
  rintro e wq ⟨rfl, hb⟩
  have S := S.call hb
  replace RG := RG.below hb
  replace RW := RW.below hb
  clear hb
  go_wp2_with fail
  refine (I4.out _).mono ?_
  rintro e wq ⟨rfl, hb⟩
  have S := S.call hb
  replace RG := RG.below hb
  replace RW := RW.below hb
  clear hb
  go_wp2_with fail
  refine (spec_DrawFeastNamed A len cap zs W _ HR.out S.bel).mono ?_
  rintro e wq ⟨t, rfl, hb⟩
  have S := S.call hb
  replace RG := RG.below hb
  replace RW := RW.below hb
  clear hb
  obtain ⟨x2, b2, I5, S5⟩ := named_pack t
  go_wp2_with fail
  refine (I5.out _).mono ?_
  rintro e wq ⟨rfl, hb⟩
  have S := S.call hb
  replace RG := RG.below hb
  replace RW := RW.below hb
  clear hb
  go_wp2_with fail
  refine (S5.out _).mono ?_
  rintro e wq ⟨rfl, hb⟩
  have S := S.call hb
  replace RG := RG.below hb
  replace RW := RW.below hb
  clear hb
  clear I4 I5 S5 HR
  go_wp2_with fail
  refine (laws_likeInts AG AW _ _ _ V HN.out _ RG RW).mono ?_
  rintro e wq ⟨rfl, hb⟩
  have S := S.call hb
  replace RG := RG.below hb
  clear hb RW
  go_wp2_with fail
  refine (S3.out _).mono ?_
  rintro e w4 ⟨rfl, hb⟩
  have S := S.call hb
  replace RG := RG.below hb
  clear hb I3 S3
  have bel := S.bel
  clear S
  have hN := HN.out
  obtain ⟨N, hN2⟩ : ∃ N, V.length = N := ⟨_, rfl⟩
  rw [hN2] at RG hN ⊢
  clear HN hN2
  rcases H3 with ⟨rfl, rfl, he1, he2⟩ | ⟨rfl, rfl, he1, he2⟩
  · rcases H2.out with rfl | ⟨rfl, y2, OD, FX⟩
    · clear H2
      go_wp2_with fail
      go_loopg [25] N (fun k i wr => FLoop AG V N W k i wr)
      case atStart => exact ⟨0, rfl, by omega, by omega, RG, bel⟩
      case round =>
        obtain ⟨n, rfl, hk, hn, RR, bel⟩ := hrel
        subst hk
        clear RG
        have S := St.start wr
        rcases H1.out with e1 | ⟨rfl, D, F1, W1, D0, D1, N0, N10, HC⟩
        · clear H1
          go_wp2_with fail
          go_ret
          exact ⟨rfl, bel⟩
        · clear H1
          have HC := Lib.hid HC
          go_wp2_with fail
          refine (F1.out _).mono ?_
          rintro e wq ⟨rfl, hb⟩
          have S := S.call hb
          clear hb
          generalize hk5 : (N1 + 5) % 7 = k5 at W1
          have HK5 := Lib.hid hk5
          clear hk5
          go_wp2_with fail
          refine (W1.out _).mono ?_
          rintro e wq ⟨rfl, hb⟩
          have S := S.call hb
          have bel2 := bel.trans (S.bel.mono bel.size)
          clear hb S bel F1 W1
          rcases HC.out with ⟨rfl, rfl⟩ | ⟨rfl, rfl⟩ | ⟨rfl, c1, c2, c3⟩ | ⟨rfl, c1, c2, c3⟩ | ⟨rfl, rfl⟩
          · go_wp2_with fail
            go_ret
            exact ⟨ret_bool (by simp), bel2⟩
          · go_wp2_with fail
            go_ret
            exact ⟨ret_bool (by simp), bel2⟩
          · have e5 : (k5 == k) = true := by rw [← HK5.out, c3]; simp
            clear c3
            go_wp2_with fail
            go_ret
            exact ⟨ret_bool (by first | rfl | exact e5), bel2⟩
          · have e5 : (k5 == k) = true := by rw [← HK5.out, c3]; simp
            clear c3
            go_wp2_with fail
            go_ret
            exact ⟨ret_bool (by first | rfl | exact e5), bel2⟩
          · go_wp2_with fail
            go_ret
            exact ⟨ret_bool (by simp), bel2⟩
    · clear H2
      go_wp2_with fail
      go_loopg [25] N (fun k i wr => FLoop AG V N W k i wr)
      case atStart => exact ⟨0, rfl, by omega, by omega, RG, bel⟩
      case round =>
        obtain ⟨n, rfl, hk, hn, RR, bel⟩ := hrel
        subst hk
        by_cases hlt : n < N
        · obtain ⟨G, off, hl, rfl, hg, c0⟩ := RR.at_ hlt
          have FD := Lib.hid (FX.out V[n] (List.getElem_mem hl))
          generalize V[n] = x5 at c0 FD
          clear H1 hl FX
          go_wp2_with fail
          refine (OD.out _).mono ?_
          rintro e w5 ⟨m2, d2, rfl, hb⟩
          have R5 := RR.below hb
          have b5 := bel.trans (hb.mono bel.size)
          have c5 := (hb.cell (p := ⟨G, off + n, none⟩) hg).trans c0
          have hg5 := Nat.lt_of_lt_of_le hg hb.size
          have hF := fstart (y := y2) (m := m2) (d := d2) c5 hg5 R5 b5
          clear hb RR bel c0 hg
          go_wp2_with fail
          try simp only [] at hF
          generalize w5.alloc (.cells #[.int .i64 y2, .int .i64 m2, .int .i64 d2] 36) = w6 at hF ⊢
          generalize w5.heap.size = b at hF ⊢
          obtain ⟨HF, hG, hB⟩ := hF
          have hc0 := HF.1
          have hc1 := HF.2.1
          go_region_held3 (fun w' => w'.cell? ⟨G, off + n, none⟩ = some (.int .i64 x5) ∧ w'.cell? ⟨b, 0, none⟩ = some (.int .i64 y2) ∧ Rd w' (some ⟨G, off, none⟩) N V ∧ Below W.heap.size W w')
            (first | exact HF | exact HQ)
            (first | (go_at_call 44; refine (FD.out _).mono ?_; rintro e wq ⟨rfl, hq⟩; have HQ := fkeep HF hG hB hq))
          obtain ⟨-, -, R7, b7⟩ := HQ
          go_wp2_with fail
          go_roundg (N - (n + 1))
          case measure => omega
          case rel => exact ⟨n + 1, by go_num, by omega, by omega, R7, b7⟩
        · have e : n = N := by omega
          subst e
          have S := St.start wr
          rcases H1.out with e1 | ⟨rfl, D, F1, W1, D0, D1, N0, N10, HC⟩
          · clear H1
            go_wp2_with fail
            go_ret
            exact ⟨rfl, bel⟩
          · clear H1
            have HC := Lib.hid HC
            go_wp2_with fail
            refine (F1.out _).mono ?_
            rintro e wq ⟨rfl, hb⟩
            have S := S.call hb
            clear hb
            generalize hk5 : (N1 + 5) % 7 = k5 at W1
            have HK5 := Lib.hid hk5
            clear hk5
            go_wp2_with fail
            refine (W1.out _).mono ?_
            rintro e wq ⟨rfl, hb⟩
            have S := S.call hb
            have bel2 := bel.trans (S.bel.mono bel.size)
            clear hb S bel F1 W1
            rcases HC.out with ⟨rfl, rfl⟩ | ⟨rfl, rfl⟩ | ⟨rfl, c1, c2, c3⟩ | ⟨rfl, c1, c2, c3⟩ | ⟨rfl, rfl⟩
            · go_wp2_with fail
              go_ret
              exact ⟨ret_bool (by simp), bel2⟩
            · go_wp2_with fail
              go_ret
              exact ⟨ret_bool (by simp), bel2⟩
            · have e5 : (k5 == k) = true := by rw [← HK5.out, c3]; simp
              clear c3
              go_wp2_with fail
              go_ret
              exact ⟨ret_bool (by first | rfl | exact e5), bel2⟩
            · have e5 : (k5 == k) = true := by rw [← HK5.out, c3]; simp
              clear c3
              go_wp2_with fail
              go_ret
              exact ⟨ret_bool (by first | rfl | exact e5), bel2⟩
            · go_wp2_with fail
              go_ret
              exact ⟨ret_bool (by simp), bel2⟩
  · rcases H2.out with rfl | ⟨rfl, y2, OD, FX⟩
    · clear H2
      go_wp2_with fail
      go_loopg [25] N (fun k i wr => FLoop AG V N W k i wr)
      case atStart => exact ⟨0, rfl, by omega, by omega, RG, bel⟩
      case round =>
        obtain ⟨n, rfl, hk, hn, RR, bel⟩ := hrel
        subst hk
        clear RG
        have S := St.start wr
        rcases H1.out with e1 | ⟨rfl, D, F1, W1, D0, D1, N0, N10, HC⟩
        · clear H1
          go_wp2_with fail
          go_ret
          exact ⟨rfl, bel⟩
        · clear H1
          have HC := Lib.hid HC
          go_wp2_with fail
          refine (F1.out _).mono ?_
          rintro e wq ⟨rfl, hb⟩
          have S := S.call hb
          clear hb
          generalize hk5 : (N1 + 5) % 7 = k5 at W1
          have HK5 := Lib.hid hk5
          clear hk5
          go_wp2_with fail
          refine (W1.out _).mono ?_
          rintro e wq ⟨rfl, hb⟩
          have S := S.call hb
          have bel2 := bel.trans (S.bel.mono bel.size)
          clear hb S bel F1 W1
          rcases HC.out with ⟨rfl, rfl⟩ | ⟨rfl, rfl⟩ | ⟨rfl, c1, c2, c3⟩ | ⟨rfl, c1, c2, c3⟩ | ⟨rfl, rfl⟩
          · go_wp2_with fail
            go_ret
            exact ⟨ret_bool (by simp), bel2⟩
          · go_wp2_with fail
            go_ret
            exact ⟨ret_bool (by simp), bel2⟩
          · have e5 : (k5 == k) = true := by rw [← HK5.out, c3]; simp
            clear c3
            go_wp2_with fail
            go_ret
            exact ⟨ret_bool (by first | rfl | exact e5), bel2⟩
          · have e5 : (k5 == k) = true := by rw [← HK5.out, c3]; simp
            clear c3
            go_wp2_with fail
            go_ret
            exact ⟨ret_bool (by first | rfl | exact e5), bel2⟩
          · go_wp2_with fail
            go_ret
            exact ⟨ret_bool (by simp), bel2⟩
    · clear H2
      go_wp2_with fail
      go_loopg [25] N (fun k i wr => FLoop AG V N W k i wr)
      case atStart => exact ⟨0, rfl, by omega, by omega, RG, bel⟩
      case round =>
        obtain ⟨n, rfl, hk, hn, RR, bel⟩ := hrel
        subst hk
        by_cases hlt : n < N
        · obtain ⟨G, off, hl, rfl, hg, c0⟩ := RR.at_ hlt
          have FD := Lib.hid (FX.out V[n] (List.getElem_mem hl))
          generalize V[n] = x5 at c0 FD
          clear H1 hl FX
          go_wp2_with fail
          refine (OD.out _).mono ?_
          rintro e w5 ⟨m2, d2, rfl, hb⟩
          have R5 := RR.below hb
          have b5 := bel.trans (hb.mono bel.size)
          have c5 := (hb.cell (p := ⟨G, off + n, none⟩) hg).trans c0
          have hg5 := Nat.lt_of_lt_of_le hg hb.size
          have hF := fstart (y := y2) (m := m2) (d := d2) c5 hg5 R5 b5
          clear hb RR bel c0 hg
          go_wp2_with fail
          try simp only [] at hF
          generalize w5.alloc (.cells #[.int .i64 y2, .int .i64 m2, .int .i64 d2] 36) = w6 at hF ⊢
          generalize w5.heap.size = b at hF ⊢
          obtain ⟨HF, hG, hB⟩ := hF
          have hc0 := HF.1
          have hc1 := HF.2.1
          go_region_held3 (fun w' => w'.cell? ⟨G, off + n, none⟩ = some (.int .i64 x5) ∧ w'.cell? ⟨b, 0, none⟩ = some (.int .i64 y2) ∧ Rd w' (some ⟨G, off, none⟩) N V ∧ Below W.heap.size W w')
            (first | exact HF | exact HQ)
            (first | (go_at_call 44; refine (FD.out _).mono ?_; rintro e wq ⟨rfl, hq⟩; have HQ := fkeep HF hG hB hq))
          obtain ⟨-, -, R7, b7⟩ := HQ
          go_wp2_with fail
          go_roundg (N - (n + 1))
          case measure => omega
          case rel => exact ⟨n + 1, by go_num, by omega, by omega, R7, b7⟩
        · have e : n = N := by omega
          subst e
          have S := St.start wr
          rcases H1.out with e1 | ⟨rfl, D, F1, W1, D0, D1, N0, N10, HC⟩
          · clear H1
            go_wp2_with fail
            go_ret
            exact ⟨rfl, bel⟩
          · clear H1
            have HC := Lib.hid HC
            go_wp2_with fail
            refine (F1.out _).mono ?_
            rintro e wq ⟨rfl, hb⟩
            have S := S.call hb
            clear hb
            generalize hk5 : (N1 + 5) % 7 = k5 at W1
            have HK5 := Lib.hid hk5
            clear hk5
            go_wp2_with fail
            refine (W1.out _).mono ?_
            rintro e wq ⟨rfl, hb⟩
            have S := S.call hb
            have bel2 := bel.trans (S.bel.mono bel.size)
            clear hb S bel F1 W1
            rcases HC.out with ⟨rfl, rfl⟩ | ⟨rfl, rfl⟩ | ⟨rfl, c1, c2, c3⟩ | ⟨rfl, c1, c2, c3⟩ | ⟨rfl, rfl⟩
            · go_wp2_with fail
              go_ret
              exact ⟨ret_bool (by simp), bel2⟩
            · go_wp2_with fail
              go_ret
              exact ⟨ret_bool (by simp), bel2⟩
            · have e5 : (k5 == k) = true := by rw [← HK5.out, c3]; simp
              clear c3
              go_wp2_with fail
              go_ret
              exact ⟨ret_bool (by first | rfl | exact e5), bel2⟩
            · have e5 : (k5 == k) = true := by rw [← HK5.out, c3]; simp
              clear c3
              go_wp2_with fail
              go_ret
              exact ⟨ret_bool (by first | rfl | exact e5), bel2⟩
            · go_wp2_with fail
              go_ret
              exact ⟨ret_bool (by simp), bel2⟩

end Go.Proofs.Ytegoiiconhgjbaa.Fea
