/- The walks of the exact laws on styles: made by gen_lawn.py. -/
import Derived.Test.YtigjpalbaapkkaaStyI
namespace Go.Proofs.Ytigjpalbaapkkaa.Sty
open Go.RowKit
open Go.Proofs.Ytigjpalbaapkkaa.Ints (laws_eqInts laws_mark laws_held marks)

theorem dw_ex (s y m d : Int) : ∃ V E, DwAns s y m d V E := by
  by_cases h : dwOk s y m d
  · obtain ⟨s1, s2, s3⟩ := span_years s y
    have hg := (bg_all s y).2.2.1
    have hm := yr_monoS (show bg s y ≤ bg s (y + 1) - 1 by omega)
    exact ⟨_, _, dd_ans h (Int.le_refl _) (Int.le_refl _) (Fea.yr (bg s (y + 1) - 1) + 1 - Fea.yr (bg s y)).toNat (by omega) (by omega)⟩
  · exact ⟨[], 2, .inr ⟨h, rfl, rfl⟩⟩
theorem DwO.fix {s y m d : Int} {V : List Int} {E : Int} {w w' : World} {e : Ending} (hk : DwAns s y m d V E) (h : DwO s y m d w e w') : Fea.IntsOut V E w e w' := by
  obtain ⟨V', E', h1, h2⟩ := h
  obtain ⟨rfl, rfl⟩ := hk.uniq h1
  exact h2
theorem sfL_len (n y : Int) : (sfL n y).length ≤ 2000000 := by
  unfold sfL
  split
  · have := sf_len n y 7; omega
  · simp
theorem DwAns.len {s y m d : Int} {V : List Int} {E : Int} (h : DwAns s y m d V E) : V.length ≤ 3 := by
  rcases h with ⟨-, -, h, -⟩ | ⟨-, -, rfl⟩
  · exact h
  · simp

set_option maxHeartbeats 400000 in
theorem walk_FnExactStyleName (s : Int) (_h0 : (Lit.int .i64 s).wf = true) (w : World) : Calls Try.prog 5 #[.int .i64 s] w (Bl true w) := by
  have A := Lib.hid (spec_StyleName s)
  have B := Lib.hid (impl_StyleName s)
  generalize snL s = l at A B
  clear _h0
  go_enter Try.func5, Try.ntmps5
  go_wp2_with fail
  refine (A.out _).mono ?_
  rintro e w1 ⟨rfl, hb⟩
  go_wp2_with fail
  refine (B.out _).mono ?_
  rintro e w2 ⟨rfl, hb2⟩
  go_wp2_with fail
  go_ret
  exact ⟨rfl, hb.trans (hb2.mono hb.size)⟩

set_option maxHeartbeats 400000 in
theorem walk_FnExactYearOn (s : Int) (_h0 : (Lit.int .i64 s).wf = true) (n : Int) (_h1 : (Lit.int .i64 n).wf = true) (w : World) : Calls Try.prog 8 #[.int .i64 s, .int .i64 n] w (Bl true w) := by
  have A := Lib.hid (spec_YearOn s n)
  have B := Lib.hid (impl_YearOn s n)
  generalize yoN s n = V at A B
  generalize yoE s n = E at A B
  clear _h0 _h1
  go_enter Try.func8, Try.ntmps8
  go_wp2_with fail
  refine (A.out _).mono ?_
  rintro e w1 ⟨rfl, hb⟩
  go_wp2_with fail
  refine (B.out _).mono ?_
  rintro e w2 ⟨rfl, hb2⟩
  go_wp2_with fail
  go_ret
  exact ⟨rfl, hb.trans (hb2.mono hb.size)⟩

set_option maxHeartbeats 400000 in
theorem walk_FnExactLengthOfYear (s : Int) (_h0 : (Lit.int .i64 s).wf = true) (y : Int) (_h1 : (Lit.int .i64 y).wf = true) (w : World) : Calls Try.prog 12 #[.int .i64 s, .int .i64 y] w (Bl true w) := by
  have A := Lib.hid (spec_LengthOfYear s y)
  have B := Lib.hid (impl_LengthOfYear s y)
  generalize lyN s y = V at A B
  generalize spE s y = E at A B
  clear _h0 _h1
  go_enter Try.func12, Try.ntmps12
  go_wp2_with fail
  refine (A.out _).mono ?_
  rintro e w1 ⟨rfl, hb⟩
  go_wp2_with fail
  refine (B.out _).mono ?_
  rintro e w2 ⟨rfl, hb2⟩
  go_wp2_with fail
  go_ret
  exact ⟨rfl, hb.trans (hb2.mono hb.size)⟩

set_option maxHeartbeats 400000 in
theorem walk_FnExactYearDifference (a : Int) (_h0 : (Lit.int .i64 a).wf = true) (b : Int) (_h1 : (Lit.int .i64 b).wf = true) (n : Int) (_h2 : (Lit.int .i64 n).wf = true) (w : World) : Calls Try.prog 11 #[.int .i64 a, .int .i64 b, .int .i64 n] w (Bl true w) := by
  have A := Lib.hid (spec_YearDifference a b n)
  have B := Lib.hid (impl_YearDifference a b n)
  generalize ydN a b n = V at A B
  generalize ydE a b n = E at A B
  clear _h0 _h1 _h2
  go_enter Try.func11, Try.ntmps11
  go_wp2_with fail
  refine (A.out _).mono ?_
  rintro e w1 ⟨rfl, hb⟩
  go_wp2_with fail
  refine (B.out _).mono ?_
  rintro e w2 ⟨rfl, hb2⟩
  go_wp2_with fail
  go_ret
  exact ⟨rfl, hb.trans (hb2.mono hb.size)⟩

set_option maxHeartbeats 400000 in
theorem laws_eqSpanS (f t : Int) (w : World) : Calls Try.prog 41 #[.agg #[.int .i64 f, .int .i64 t], .agg #[.int .i64 f, .int .i64 t]] w (Bl true w) := by
  go_enter Try.func41, Try.ntmps41
  go_wp2
  go_ret
  exact ⟨rfl, ((Below.refl _ _).alloc (Nat.le_refl _) _).alloc (by simp) _⟩

set_option maxHeartbeats 400000 in
theorem walk_FnExactYearSpan (s : Int) (_h0 : (Lit.int .i64 s).wf = true) (y : Int) (_h1 : (Lit.int .i64 y).wf = true) (w : World) : Calls Try.prog 7 #[.int .i64 s, .int .i64 y] w (Bl true w) := by
  have A := Lib.hid (spec_YearSpan s y)
  have B := Lib.hid (impl_YearSpan s y)
  generalize spF s y = f at A B
  generalize spT s y = t at A B
  generalize spE s y = E at A B
  clear _h0 _h1
  go_enter Try.func7, Try.ntmps7
  go_wp2_with fail
  refine (A.out _).mono ?_
  rintro e w1 ⟨rfl, hb⟩
  have k1 := hb.alloc hb.size (.cells #[.int .i64 f, .int .i64 t] 40)
  have B1 := Blk.new w1 40 #[.int .i64 f, .int .i64 t]
  clear hb
  go_wp2_with fail
  refine (B.out _).mono ?_
  rintro e w2 ⟨rfl, hb2⟩
  have k2 := (k1.trans (hb2.mono k1.size)).alloc (by have := k1.size; have := hb2.size; omega) (.cells #[.int .i64 f, .int .i64 t] 40)
  have B2 := (B1.below hb2 B1.lt).alloc (.cells #[.int .i64 f, .int .i64 t] 40)
  have c0 : (w2.alloc (.cells #[.int .i64 f, .int .i64 t] 40)).cell? ⟨w1.heap.size, 0, none⟩ = some (.int .i64 f) := B2.cell 0
  have c1 : (w2.alloc (.cells #[.int .i64 f, .int .i64 t] 40)).cell? ⟨w1.heap.size, 1, none⟩ = some (.int .i64 t) := B2.cell 1
  clear B1 B2 hb2 k1
  go_wp2_with fail
  refine (laws_eqSpanS f t _).mono ?_
  rintro e w3 ⟨rfl, hb3⟩
  go_wp2_with fail
  go_ret
  exact ⟨rfl, k2.trans (hb3.mono k2.size)⟩

set_option maxHeartbeats 400000 in
theorem walk_FnExactStyleNamed (s : ByteArray) (_hs : s.size ≤ maxLen) (w : World) : Calls Try.prog 6 #[.string s] w (Bl true w) := by
  have A := Lib.hid (spec_StyleNamed s)
  have B := Lib.hid (impl_StyleNamed s)
  by_cases hbig : (1048576 : Int) < s.size
  · go_enter Try.func6, Try.ntmps6
    go_wp2_with fail
    go_ret
    exact ⟨rfl, Below.refl _ _⟩
  · have hsm : (s.size : Int) ≤ 1048576 := by omega
    clear hbig
    go_enter Try.func6, Try.ntmps6
    go_wp2_with fail
    refine (A.out _).mono ?_
    rintro e w1 ⟨k, b, hk, rfl, hb⟩
    have HK := Lib.hid hk
    clear hk
    go_wp2_with fail
    refine (B.out _).mono ?_
    rintro e w2 ⟨k', b', hk', rfl, hb2⟩
    obtain ⟨rfl, rfl⟩ := hk'.uniq HK.out
    clear hk' HK
    go_wp2_with fail
    go_ret
    exact ⟨rfl, hb.trans (hb2.mono hb.size)⟩

set_option maxHeartbeats 4000000 in
set_option maxRecDepth 100000 in
theorem walk_FnExactStylesFor (n : Int) (_h0 : (Lit.int .i64 n).wf = true) (y : Int) (_h1 : (Lit.int .i64 y).wf = true) (w : World) : Calls Try.prog 10 #[.int .i64 n, .int .i64 y] w (Bl true w) := by
  obtain ⟨V, E, HL, HS, HI⟩ : ∃ (V : List Int) (E : Int), Hid (V.length ≤ 2000000) ∧ Hid (∀ wx : World, Calls Try.prog 21 #[.int .i64 n, .int .i64 y] wx (Fea.IntsOut V E wx)) ∧ Hid (∀ wx : World, Calls Try.prog 20 #[.int .i64 n, .int .i64 y] wx (Fea.IntsOut V E wx)) := by
    exact ⟨_, _, Lib.hid (sfL_len n y), Lib.hid fun wx => spec_StylesFor n y wx, Lib.hid fun wx => impl_StylesFor n y wx⟩
  clear _h0 _h1
  go_enter Try.func10, Try.ntmps10
  go_wp2_with fail
  refine (HS.out _).mono ?_
  rintro e w1 ⟨AW, cW, rfl, RW, kk⟩
  have z1 : w.heap.size ≤ w1.heap.size := kk.size
  go_wp2_with fail
  refine (HI.out _).mono ?_
  rintro e w2 ⟨AG, cG, rfl, RG, b⟩
  replace kk := kk.trans (b.mono kk.size)
  replace RW := RW.below b
  have z2 : w1.heap.size ≤ w2.heap.size := b.size
  go_wp2_with fail
  refine (laws_eqInts AG AW _ _ _ V HL.out w2 RG.rd RW.rd).mono ?_
  rintro e w5 ⟨rfl, b⟩
  replace kk := kk.trans (b.mono kk.size)
  replace RW := RW.below b
  replace RG := RG.below b
  have z5 : w2.heap.size ≤ w5.heap.size := b.size
  go_wp2_with fail
  refine (laws_mark AG _ _ _ _ V 1 (by omega) (by omega) HL.out w5 RG).mono ?_
  rintro e w3 ⟨rfl, RG', hc⟩
  replace kk := kk.trans (hc.below (B0 := w.heap.size) (by omega) kk.size)
  have z3 : w5.heap.size ≤ w3.heap.size := hc.size
  replace RW := RW.chg hc (by omega)
  clear RG hc
  have hqq : ¬ (1 + (V.length : Int) < 0) := by omega
  go_wp2_with fail
  refine (laws_held AG _ cG 1 (by omega) (by omega) HL.out w3 RG'.rd).mono ?_
  rintro e wz ⟨rfl, rfl⟩
  go_wp2_with fail
  refine (HI.out _).mono ?_
  rintro e w4 ⟨AH, cH, rfl, RH, b⟩
  replace kk := kk.trans (b.mono kk.size)
  replace RW := RW.below b
  replace RG' := RG'.below b
  have z4 : w3.heap.size ≤ w4.heap.size := b.size
  go_wp2_with fail
  refine (laws_eqInts AH AW _ _ _ V HL.out w4 RH.rd RW.rd).mono ?_
  rintro e w6 ⟨rfl, b⟩
  replace kk := kk.trans (b.mono kk.size)
  replace RG' := RG'.below b
  go_wp2_with fail
  refine (laws_held AG _ cG 1 (by omega) (by omega) HL.out w6 RG'.rd).mono ?_
  rintro e wz ⟨rfl, rfl⟩
  go_wp2_with fail
  go_ret
  exact ⟨rfl, kk⟩


set_option maxHeartbeats 4000000 in
set_option maxRecDepth 100000 in
theorem walk_FnExactDaysWith (s : Int) (_h0 : (Lit.int .i64 s).wf = true) (y : Int) (_h1 : (Lit.int .i64 y).wf = true) (m : Int) (_h2 : (Lit.int .i64 m).wf = true) (d : Int) (_h3 : (Lit.int .i64 d).wf = true) (w : World) : Calls Try.prog 9 #[.int .i64 s, .int .i64 y, .int .i64 m, .int .i64 d] w (Bl true w) := by
  obtain ⟨V, E, HL, HS, HI⟩ : ∃ (V : List Int) (E : Int), Hid (V.length ≤ 2000000) ∧ Hid (∀ wx : World, Calls Try.prog 35 #[.int .i64 s, .int .i64 y, .int .i64 m, .int .i64 d] wx (Fea.IntsOut V E wx)) ∧ Hid (∀ wx : World, Calls Try.prog 34 #[.int .i64 s, .int .i64 y, .int .i64 m, .int .i64 d] wx (Fea.IntsOut V E wx)) := by
    obtain ⟨V, E, h⟩ := dw_ex s y m d
    exact ⟨V, E, Lib.hid (by have := h.len; omega), Lib.hid fun wx => (spec_DaysWith s y m d wx).mono fun _ _ q => q.fix h, Lib.hid fun wx => (impl_DaysWith s y m d wx).mono fun _ _ q => q.fix h⟩
  clear _h0 _h1 _h2 _h3
  go_enter Try.func9, Try.ntmps9
  go_wp2_with fail
  refine (HS.out _).mono ?_
  rintro e w1 ⟨AW, cW, rfl, RW, kk⟩
  have z1 : w.heap.size ≤ w1.heap.size := kk.size
  go_wp2_with fail
  refine (HI.out _).mono ?_
  rintro e w2 ⟨AG, cG, rfl, RG, b⟩
  replace kk := kk.trans (b.mono kk.size)
  replace RW := RW.below b
  have z2 : w1.heap.size ≤ w2.heap.size := b.size
  go_wp2_with fail
  refine (laws_eqInts AG AW _ _ _ V HL.out w2 RG.rd RW.rd).mono ?_
  rintro e w5 ⟨rfl, b⟩
  replace kk := kk.trans (b.mono kk.size)
  replace RW := RW.below b
  replace RG := RG.below b
  have z5 : w2.heap.size ≤ w5.heap.size := b.size
  go_wp2_with fail
  refine (laws_mark AG _ _ _ _ V 1 (by omega) (by omega) HL.out w5 RG).mono ?_
  rintro e w3 ⟨rfl, RG', hc⟩
  replace kk := kk.trans (hc.below (B0 := w.heap.size) (by omega) kk.size)
  have z3 : w5.heap.size ≤ w3.heap.size := hc.size
  replace RW := RW.chg hc (by omega)
  clear RG hc
  have hqq : ¬ (1 + (V.length : Int) < 0) := by omega
  go_wp2_with fail
  refine (laws_held AG _ cG 1 (by omega) (by omega) HL.out w3 RG'.rd).mono ?_
  rintro e wz ⟨rfl, rfl⟩
  go_wp2_with fail
  refine (HI.out _).mono ?_
  rintro e w4 ⟨AH, cH, rfl, RH, b⟩
  replace kk := kk.trans (b.mono kk.size)
  replace RW := RW.below b
  replace RG' := RG'.below b
  have z4 : w3.heap.size ≤ w4.heap.size := b.size
  go_wp2_with fail
  refine (laws_eqInts AH AW _ _ _ V HL.out w4 RH.rd RW.rd).mono ?_
  rintro e w6 ⟨rfl, b⟩
  replace kk := kk.trans (b.mono kk.size)
  replace RG' := RG'.below b
  go_wp2_with fail
  refine (laws_held AG _ cG 1 (by omega) (by omega) HL.out w6 RG'.rd).mono ?_
  rintro e wz ⟨rfl, rfl⟩
  go_wp2_with fail
  go_ret
  exact ⟨rfl, kk⟩


end Go.Proofs.Ytigjpalbaapkkaa.Sty
