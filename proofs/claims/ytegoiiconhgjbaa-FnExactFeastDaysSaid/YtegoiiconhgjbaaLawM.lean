/- The walks of the exact laws on feasts. -/
import Derived.Test.YtegoiiconhgjbaaFeaI
namespace Go.Proofs.Ytegoiiconhgjbaa.Fea
open Go.RowKit
open Go.Proofs.Ytegoiiconhgjbaa.Ints (laws_eqInts laws_mark laws_held marks)

set_option maxHeartbeats 400000 in
theorem walk_FnExactFeastName (f : Int) (_f : (Lit.int .i64 f).wf = true) (w : World) : Calls Try.prog 10 #[.int .i64 f] w (Bl true w) := by
  have A := Lib.hid (spec_FeastName f)
  have B := Lib.hid (impl_FeastName f)
  generalize nmL f = a at A B
  clear _f
  go_enter Try.func10, Try.ntmps10
  go_wp2_with fail
  refine (A.out _).mono ?_
  rintro e w1 ⟨rfl, hb⟩
  go_wp2_with fail
  refine (B.out _).mono ?_
  rintro e w2 ⟨rfl, hb2⟩
  go_wp2_with fail
  go_ret
  exact ⟨rfl, hb.trans (hb2.mono hb.size)⟩

set_option maxHeartbeats 400000 in
theorem walk_FnExactFeastNamed (s : ByteArray) (_hs : s.size ≤ maxLen) (w : World) : Calls Try.prog 11 #[.string s] w (Bl true w) := by
  have A := Lib.hid (spec_FeastNamed s)
  have B := Lib.hid (impl_FeastNamed s)
  by_cases hbig : (1048576 : Int) < s.size
  · go_enter Try.func11, Try.ntmps11
    go_wp2_with fail
    go_ret
    exact ⟨rfl, Below.refl _ _⟩
  · have hsm : (s.size : Int) ≤ 1048576 := by omega
    clear hbig
    go_enter Try.func11, Try.ntmps11
    go_wp2_with fail
    refine (A.out _).mono ?_
    rintro e w1 ⟨k, b, hk, rfl, hb⟩
    have HK := Lib.hid hk
    clear hk
    go_wp2_with fail
    refine (B.out _).mono ?_
    rintro e w2 ⟨k', b', hk', rfl, hb2⟩
    obtain ⟨rfl, rfl⟩ := hk'.uniq HK.out
    clear hk' HK
    go_wp2_with fail
    go_ret
    exact ⟨rfl, hb.trans (hb2.mono hb.size)⟩

set_option maxHeartbeats 400000 in
theorem walk_FnExactFeastDay (f : Int) (_h0 : (Lit.int .i64 f).wf = true) (y : Int) (_h1 : (Lit.int .i64 y).wf = true) (w : World) : Calls Try.prog 12 #[.int .i64 f, .int .i64 y] w (Bl true w) := by
  have A := Lib.hid (spec_FeastDay f y)
  have B := Lib.hid (impl_FeastDay f y)
  generalize fdN f y = V at A B
  generalize fdE f y = E at A B
  clear _h0 _h1
  go_enter Try.func12, Try.ntmps12
  go_wp2_with fail
  refine (A.out _).mono ?_
  rintro e w1 ⟨rfl, hb⟩
  go_wp2_with fail
  refine (B.out _).mono ?_
  rintro e w2 ⟨rfl, hb2⟩
  go_wp2_with fail
  go_ret
  exact ⟨rfl, hb.trans (hb2.mono hb.size)⟩

set_option maxHeartbeats 400000 in
theorem walk_FnExactRelatedDay (f : Int) (_h0 : (Lit.int .i64 f).wf = true) (r : Int) (_h1 : (Lit.int .i64 r).wf = true) (k : Int) (_h2 : (Lit.int .i64 k).wf = true) (y : Int) (_h3 : (Lit.int .i64 y).wf = true) (w : World) : Calls Try.prog 13 #[.int .i64 f, .int .i64 r, .int .i64 k, .int .i64 y] w (Bl true w) := by
  have A := Lib.hid (spec_RelatedDay f r k y)
  have B := Lib.hid (impl_RelatedDay f r k y)
  generalize relN f r k y = V at A B
  generalize relE f r k y = E at A B
  clear _h0 _h1 _h2 _h3
  go_enter Try.func13, Try.ntmps13
  go_wp2_with fail
  refine (A.out _).mono ?_
  rintro e w1 ⟨rfl, hb⟩
  go_wp2_with fail
  refine (B.out _).mono ?_
  rintro e w2 ⟨rfl, hb2⟩
  go_wp2_with fail
  go_ret
  exact ⟨rfl, hb.trans (hb2.mono hb.size)⟩

set_option maxHeartbeats 400000 in
theorem walk_FnExactNextFeast (n : Int) (_h0 : (Lit.int .i64 n).wf = true) (w : World) : Calls Try.prog 15 #[.int .i64 n] w (Bl true w) := by
  have A := Lib.hid (spec_NextFeast n)
  have B := Lib.hid (impl_NextFeast n)
  clear _h0
  go_enter Try.func15, Try.ntmps15
  go_wp2_with fail
  refine (A.out _).mono ?_
  rintro e w1 ⟨d, x, c, rfl, hn, hb⟩
  have HN := Lib.hid hn
  clear hn
  go_wp2_with fail
  refine (B.out _).mono ?_
  rintro e w2 ⟨d', x', c', rfl, hn', hb2⟩
  obtain ⟨rfl, rfl, rfl⟩ := hn'.uniq HN.out
  clear hn' HN
  go_wp2_with fail
  go_ret
  exact ⟨rfl, hb.trans (hb2.mono hb.size)⟩

set_option maxHeartbeats 400000 in
theorem walk_FnExactNearestFeast (n : Int) (_h0 : (Lit.int .i64 n).wf = true) (w : World) : Calls Try.prog 16 #[.int .i64 n] w (Bl true w) := by
  have A := Lib.hid (spec_NearestFeast n)
  have B := Lib.hid (impl_NearestFeast n)
  clear _h0
  go_enter Try.func16, Try.ntmps16
  go_wp2_with fail
  refine (A.out _).mono ?_
  rintro e w1 ⟨d, x, c, rfl, hn, hb⟩
  have HN := Lib.hid hn
  clear hn
  go_wp2_with fail
  refine (B.out _).mono ?_
  rintro e w2 ⟨d', x', c', rfl, hn', hb2⟩
  obtain ⟨rfl, rfl, rfl⟩ := hn'.uniq HN.out
  clear hn' HN
  go_wp2_with fail
  go_ret
  exact ⟨rfl, hb.trans (hb2.mono hb.size)⟩

theorem onL_len (n : Int) : (onL n).length ≤ 2000000 := by
  unfold onL
  split
  · have := fon_len n; omega
  · simp

set_option maxHeartbeats 4000000 in
set_option maxRecDepth 100000 in
theorem walk_FnExactFeastsOn (n : Int) (_h0 : (Lit.int .i64 n).wf = true) (w : World) : Calls Try.prog 14 #[.int .i64 n] w (Bl true w) := by
  obtain ⟨V, E, HL, HS, HI⟩ : ∃ (V : List Int) (E : Int), Hid (V.length ≤ 2000000) ∧ Hid (∀ wx : World, Calls Try.prog 37 #[.int .i64 n] wx (IntsOut V E wx)) ∧ Hid (∀ wx : World, Calls Try.prog 36 #[.int .i64 n] wx (IntsOut V E wx)) :=
    ⟨_, _, Lib.hid (onL_len n), Lib.hid fun wx => spec_FeastsOn n wx, Lib.hid fun wx => impl_FeastsOn n wx⟩
  clear _h0
  go_enter Try.func14, Try.ntmps14
  go_wp2_with fail
  refine (HS.out _).mono ?_
  rintro e w1 ⟨AW, cW, rfl, RW, kk⟩
  have z1 : w.heap.size ≤ w1.heap.size := kk.size
  go_wp2_with fail
  refine (HI.out _).mono ?_
  rintro e w2 ⟨AG, cG, rfl, RG, b⟩
  replace kk := kk.trans (b.mono kk.size)
  replace RW := RW.below b
  have z2 : w1.heap.size ≤ w2.heap.size := b.size
  go_wp2_with fail
  refine (laws_eqInts AG AW _ _ _ V HL.out w2 RG.rd RW.rd).mono ?_
  rintro e w5 ⟨rfl, b⟩
  replace kk := kk.trans (b.mono kk.size)
  replace RW := RW.below b
  replace RG := RG.below b
  have z5 : w2.heap.size ≤ w5.heap.size := b.size
  go_wp2_with fail
  refine (laws_mark AG _ _ _ _ V 1 (by omega) (by omega) HL.out w5 RG).mono ?_
  rintro e w3 ⟨rfl, RG', hc⟩
  replace kk := kk.trans (hc.below (B0 := w.heap.size) (by omega) kk.size)
  have z3 : w5.heap.size ≤ w3.heap.size := hc.size
  replace RW := RW.chg hc (by omega)
  clear RG hc
  have hqq : ¬ (1 + (V.length : Int) < 0) := by omega
  go_wp2_with fail
  refine (laws_held AG _ cG 1 (by omega) (by omega) HL.out w3 RG'.rd).mono ?_
  rintro e wz ⟨rfl, rfl⟩
  go_wp2_with fail
  refine (HI.out _).mono ?_
  rintro e w4 ⟨AH, cH, rfl, RH, b⟩
  replace kk := kk.trans (b.mono kk.size)
  replace RW := RW.below b
  replace RG' := RG'.below b
  have z4 : w3.heap.size ≤ w4.heap.size := b.size
  go_wp2_with fail
  refine (laws_eqInts AH AW _ _ _ V HL.out w4 RH.rd RW.rd).mono ?_
  rintro e w6 ⟨rfl, b⟩
  replace kk := kk.trans (b.mono kk.size)
  replace RG' := RG'.below b
  go_wp2_with fail
  refine (laws_held AG _ cG 1 (by omega) (by omega) HL.out w6 RG'.rd).mono ?_
  rintro e wz ⟨rfl, rfl⟩
  go_wp2_with fail
  go_ret
  exact ⟨rfl, kk⟩

theorem fdAns_len {f r k a b : Int} {V : List (Int × Int)} {c : Int} (h : FdAns f r k a b V c) : V.length ≤ 2000000 := by
  rcases h with ⟨-, -, h, -⟩ | ⟨-, -, rfl⟩
  · omega
  · simp

set_option maxHeartbeats 4000000 in
set_option maxRecDepth 100000 in
theorem walk_FnExactFeastDays (f : Int) (_h0 : (Lit.int .i64 f).wf = true) (r : Int) (_h1 : (Lit.int .i64 r).wf = true) (k : Int) (_h2 : (Lit.int .i64 k).wf = true) (a : Int) (_h3 : (Lit.int .i64 a).wf = true) (b : Int) (_h4 : (Lit.int .i64 b).wf = true) (w : World) : Calls Try.prog 17 #[.int .i64 f, .int .i64 r, .int .i64 k, .int .i64 a, .int .i64 b] w (Bl true w) := by
  have HS := Lib.hid (spec_FeastDays f r k a b)
  have HI := Lib.hid (impl_FeastDays f r k a b)
  clear _h0 _h1 _h2 _h3 _h4
  go_enter Try.func17, Try.ntmps17
  go_wp2_with fail
  refine (HS.out _).mono ?_
  rintro e w1 ⟨V, E, hV, AW, cW, rfl, RW, kk⟩
  have HL := Lib.hid (fdAns_len hV)
  have HV := Lib.hid hV
  clear hV
  have z1 : w.heap.size ≤ w1.heap.size := kk.size
  go_wp2_with fail
  refine (HI.out _).mono ?_
  rintro e w2 ⟨V2, E2, hV2, AG, cG, rfl, RG, b⟩
  obtain ⟨rfl, rfl⟩ := HV.out.uniq hV2
  clear hV2
  replace kk := kk.trans (b.mono kk.size)
  replace RW := RW.below b
  have z2 : w1.heap.size ≤ w2.heap.size := b.size
  go_wp2_with fail
  refine (Sets.laws_eqSpans AG AW _ _ _ V HL.out w2 RG.rd RW.rd).mono ?_
  rintro e w5 ⟨rfl, b⟩
  replace kk := kk.trans (b.mono kk.size)
  replace RW := RW.below b
  replace RG := RG.below b
  have z5 : w2.heap.size ≤ w5.heap.size := b.size
  go_wp2_with fail
  refine (Sets.laws_mark AG _ _ _ _ V 1 (by omega) (by omega) HL.out w5 RG).mono ?_
  rintro e w3 ⟨rfl, RG', hc⟩
  replace kk := kk.trans (hc.below (B0 := w.heap.size) (by omega) kk.size)
  have z3 : w5.heap.size ≤ w3.heap.size := hc.size
  replace RW := RW.chg hc (by omega)
  clear RG hc
  have hqq : ¬ (1 + 2 * (V.length : Int) < 0) := by omega
  go_wp2_with fail
  refine (Sets.laws_held AG _ cG 1 (by omega) (by omega) HL.out w3 RG'.rd).mono ?_
  rintro e wz ⟨rfl, rfl⟩
  go_wp2_with fail
  refine (HI.out _).mono ?_
  rintro e w4 ⟨V3, E3, hV3, AH, cH, rfl, RH, b⟩
  obtain ⟨rfl, rfl⟩ := HV.out.uniq hV3
  clear hV3
  replace kk := kk.trans (b.mono kk.size)
  replace RW := RW.below b
  replace RG' := RG'.below b
  have z4 : w3.heap.size ≤ w4.heap.size := b.size
  go_wp2_with fail
  refine (Sets.laws_eqSpans AH AW _ _ _ V HL.out w4 RH.rd RW.rd).mono ?_
  rintro e w6 ⟨rfl, b⟩
  replace kk := kk.trans (b.mono kk.size)
  replace RG' := RG'.below b
  go_wp2_with fail
  refine (Sets.laws_held AG _ cG 1 (by omega) (by omega) HL.out w6 RG'.rd).mono ?_
  rintro e wz ⟨rfl, rfl⟩
  go_wp2_with fail
  go_ret
  exact ⟨rfl, kk⟩

end Go.Proofs.Ytegoiiconhgjbaa.Fea
