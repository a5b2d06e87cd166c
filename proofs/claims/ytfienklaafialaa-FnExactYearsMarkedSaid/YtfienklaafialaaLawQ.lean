/- The walks of the exact laws on indictions: made by gen_lawq.py. -/
import Derived.Test.YtfienklaafialaaIndI
namespace Go.Proofs.Ytfienklaafialaa.Ind
open Go.RowKit

theorem Lv {k i f t : Int} : (idL k i f t).length ≤ 2000000 := by
  unfold idL
  split
  · rename_i h
    obtain ⟨-, -, ⟨f0, f1⟩, t0, t1⟩ := h
    have a := Sets.make_length (ids k i f t (Fea.yr f) (idN f t))
    have b := ids_len k i f t (Fea.yr f) (idN f t)
    have p := Fea.yr_in t
    have q := Fea.yr_in f
    rw [Fea.ys_old, Fea.ys_old] at p q
    unfold idS idN at *
    omega
  · simp
theorem ym_len2 (a e c f t : Int) : (ymL a e c f t).length ≤ 2000000 := by
  unfold ymL
  split
  · rename_i h
    have a := ym_len a e c f (t + 1 - f).toNat
    obtain ⟨-, -, h1, h2⟩ := h
    omega
  · simp

set_option maxHeartbeats 400000 in
theorem laws_toMark (a e c : Int) (w : World) : Calls Try.prog 43 #[mV a e c] w fun e9 w' => e9 = .returned (mV a e c) ∧ Below w.heap.size w w' := by
  unfold mV
  go_enter Try.func43, Try.ntmps43
  go_wp2_with fail
  refine bodyPost_ret (v := mV a e c) (by simp [mV, results, Try.results43, go_sem]) rfl ⟨rfl, ?_⟩
  exact (((Below.refl _ _).alloc (Nat.le_refl _) _).alloc (by simp) _).alloc (by simp; omega) _
set_option maxHeartbeats 400000 in
theorem laws_eqMark (a e c : Int) (w : World) : Calls Try.prog 47 #[mV a e c, mV a e c] w fun e9 w' => e9 = .returned (.bool true) ∧ Below w.heap.size w w' := by
  unfold mV
  go_enter Try.func47, Try.ntmps47
  go_wp2_with fail
  go_ret
  exact ⟨rfl, ((Below.refl _ _).alloc (Nat.le_refl _) _).alloc (by simp) _⟩

set_option maxHeartbeats 400000 in
theorem walk_FnExactIndictionOf (y : Int) (_h0 : (Lit.int .i64 y).wf = true) (w : World) : Calls Try.prog 5 #[.int .i64 y] w (Bl true w) := by
  have A := Lib.hid (spec_IndictionOf y)
  have B := Lib.hid (impl_IndictionOf y)
  generalize ifN y = V at A B
  generalize yE y = E at A B
  clear _h0
  go_enter Try.func5, Try.ntmps5
  go_wp2_with fail
  refine (A.out _).mono ?_
  rintro e w1 ⟨rfl, hb⟩
  go_wp2_with fail
  refine (B.out _).mono ?_
  rintro e w2 ⟨rfl, hb2⟩
  go_wp2_with fail
  go_ret
  exact ⟨rfl, hb.trans (hb2.mono hb.size)⟩

set_option maxHeartbeats 400000 in
theorem walk_FnExactEpactOf (y : Int) (_h0 : (Lit.int .i64 y).wf = true) (w : World) : Calls Try.prog 8 #[.int .i64 y] w (Bl true w) := by
  have A := Lib.hid (spec_EpactOf y)
  have B := Lib.hid (impl_EpactOf y)
  generalize epN y = V at A B
  generalize yE y = E at A B
  clear _h0
  go_enter Try.func8, Try.ntmps8
  go_wp2_with fail
  refine (A.out _).mono ?_
  rintro e w1 ⟨rfl, hb⟩
  go_wp2_with fail
  refine (B.out _).mono ?_
  rintro e w2 ⟨rfl, hb2⟩
  go_wp2_with fail
  go_ret
  exact ⟨rfl, hb.trans (hb2.mono hb.size)⟩

set_option maxHeartbeats 400000 in
theorem walk_FnExactConcurrentOf (y : Int) (_h0 : (Lit.int .i64 y).wf = true) (w : World) : Calls Try.prog 9 #[.int .i64 y] w (Bl true w) := by
  have A := Lib.hid (spec_ConcurrentOf y)
  have B := Lib.hid (impl_ConcurrentOf y)
  generalize coN y = V at A B
  generalize yE y = E at A B
  clear _h0
  go_enter Try.func9, Try.ntmps9
  go_wp2_with fail
  refine (A.out _).mono ?_
  rintro e w1 ⟨rfl, hb⟩
  go_wp2_with fail
  refine (B.out _).mono ?_
  rintro e w2 ⟨rfl, hb2⟩
  go_wp2_with fail
  go_ret
  exact ⟨rfl, hb.trans (hb2.mono hb.size)⟩

set_option maxHeartbeats 400000 in
theorem walk_FnExactIndictionOn (k : Int) (_h0 : (Lit.int .i64 k).wf = true) (n : Int) (_h1 : (Lit.int .i64 n).wf = true) (w : World) : Calls Try.prog 6 #[.int .i64 k, .int .i64 n] w (Bl true w) := by
  have A := Lib.hid (spec_IndictionOn k n)
  have B := Lib.hid (impl_IndictionOn k n)
  generalize ioN k n = V at A B
  generalize ioE k n = E at A B
  clear _h0 _h1
  go_enter Try.func6, Try.ntmps6
  go_wp2_with fail
  refine (A.out _).mono ?_
  rintro e w1 ⟨rfl, hb⟩
  go_wp2_with fail
  refine (B.out _).mono ?_
  rintro e w2 ⟨rfl, hb2⟩
  go_wp2_with fail
  go_ret
  exact ⟨rfl, hb.trans (hb2.mono hb.size)⟩

set_option maxHeartbeats 1000000 in
theorem walk_FnExactIsYearMark (a e c : Int) (_h0 : (Lit.int .i64 a).wf = true) (_h1 : (Lit.int .i64 e).wf = true) (_h2 : (Lit.int .i64 c).wf = true) (w : World) : Calls Try.prog 10 #[mV a e c] w (Bl true w) := by
  obtain ⟨b, hb⟩ : ∃ b, decide (mkOk a e c) = b := ⟨_, rfl⟩
  have A := Lib.hid (spec_IsYearMark a e c b hb)
  have B := Lib.hid (impl_IsYearMark a e c b hb)
  have T := Lib.hid (laws_toMark a e c)
  unfold mV at A B T ⊢
  have S0 := (St.start w).alloc 56 #[.int .i64 a, .int .i64 e, .int .i64 c]
  obtain ⟨c0, c1, c2⟩ := S0.b0.three
  clear hb _h0 _h1 _h2
  go_enter Try.func10, Try.ntmps10
  go_wp2_with fail
  refine (T.out _).mono ?_
  rintro e9 w1 ⟨rfl, hb⟩
  have S1 := S0.call hb
  clear c0 c1 c2 hb S0
  go_wp2_with fail
  refine (A.out _).mono ?_
  rintro e9 w2 ⟨rfl, hb⟩
  have S2 := S1.call hb
  obtain ⟨c0, c1, c2⟩ := S2.b0.three
  clear hb S1
  go_wp2_with fail
  refine (T.out _).mono ?_
  rintro e9 w3 ⟨rfl, hb⟩
  have S3 := S2.call hb
  clear c0 c1 c2 hb S2
  go_wp2_with fail
  refine (B.out _).mono ?_
  rintro e9 w4 ⟨rfl, hb⟩
  have S4 := S3.call hb
  cases b
  · go_wp2_with fail
    go_ret
    exact ⟨rfl, S4.bel⟩
  · go_wp2_with fail
    go_ret
    exact ⟨rfl, S4.bel⟩

set_option maxHeartbeats 1000000 in
theorem walk_FnExactMarkOf (y : Int) (_h0 : (Lit.int .i64 y).wf = true) (w : World) : Calls Try.prog 12 #[.int .i64 y] w (Bl true w) := by
  have A := Lib.hid (spec_MarkOf y)
  have B := Lib.hid (impl_MarkOf y)
  generalize ifN y = a at A B
  generalize epN y = e at A B
  generalize coN y = c at A B
  generalize yE y = E at A B
  have Q := Lib.hid (laws_eqMark a e c)
  unfold mV at Q
  clear _h0
  go_enter Try.func12, Try.ntmps12
  go_wp2_with fail
  refine (A.out _).mono ?_
  rintro e9 w1 ⟨rfl, hb⟩
  have S1 := ((St.start w).call hb).alloc 42 #[.int .i64 a, .int .i64 e, .int .i64 c]
  clear hb
  go_wp2_with fail
  refine (B.out _).mono ?_
  rintro e9 w2 ⟨rfl, hb⟩
  have S2 := (S1.call hb).alloc 42 #[.int .i64 a, .int .i64 e, .int .i64 c]
  clear hb
  obtain ⟨c0, c1, c2⟩ := S2.b0.three
  obtain ⟨d0, d1, d2⟩ := S2.b1.three
  go_wp2_with fail
  refine (Q.out _).mono ?_
  rintro e9 w3 ⟨rfl, hb⟩
  have S3 := S2.call hb
  clear c0 c1 c2 d0 d1 d2
  go_wp2_with fail
  go_ret
  exact ⟨rfl, S3.bel⟩

set_option maxHeartbeats 4000000 in
set_option maxRecDepth 100000 in
theorem walk_FnExactIndictionDays (k : Int) (_h0 : (Lit.int .i64 k).wf = true) (i : Int) (_h1 : (Lit.int .i64 i).wf = true) (f : Int) (_h2 : (Lit.int .i64 f).wf = true) (t : Int) (_h3 : (Lit.int .i64 t).wf = true) (w : World) : Calls Try.prog 7 #[.int .i64 k, .int .i64 i, .int .i64 f, .int .i64 t] w (Bl true w) := by
  obtain ⟨V, E, HL, HS, HI⟩ : ∃ (V : Sets.L) (E : Int), Hid (V.length ≤ 2000000) ∧ Hid (∀ wx : World, Calls Try.prog 19 #[.int .i64 k, .int .i64 i, .int .i64 f, .int .i64 t] wx (Sets.SetOut V E wx)) ∧ Hid (∀ wx : World, Calls Try.prog 18 #[.int .i64 k, .int .i64 i, .int .i64 f, .int .i64 t] wx (Sets.SetOut V E wx)) :=
    ⟨_, _, Lib.hid (Lv), Lib.hid fun wx => spec_IndictionDays k i f t wx, Lib.hid fun wx => impl_IndictionDays k i f t wx⟩
  clear _h0 _h1 _h2 _h3
  have kk := Below.refl w.heap.size w
  go_enter Try.func7, Try.ntmps7
  go_wp2_with fail
  refine (HS.out _).mono ?_
  rintro e9 w1 ⟨AW, cW, rfl, RW, b⟩
  have z1 : w.heap.size ≤ w1.heap.size := b.size
  replace kk := kk.trans (b.mono kk.size)
  clear b
  go_wp2_with fail
  refine (HI.out _).mono ?_
  rintro e9 w2 ⟨AG, cG, rfl, RG, b⟩
  have z2 : w1.heap.size ≤ w2.heap.size := b.size
  replace kk := kk.trans (b.mono kk.size)
  replace RW := RW.below b
  clear b
  go_wp2_with fail
  refine (Sets.laws_eqSpans AG AW _ _ _ V HL.out _ RG.rd RW.rd).mono ?_
  rintro e9 w3 ⟨rfl, b⟩
  have z3 : w2.heap.size ≤ w3.heap.size := b.size
  replace kk := kk.trans (b.mono kk.size)
  replace RW := RW.below b
  replace RG := RG.below b
  clear b
  go_wp2_with fail
  refine (Sets.laws_mark AG _ _ _ _ V 1 (by omega) (by omega) HL.out _ RG).mono ?_
  rintro e9 w4 ⟨rfl, RG', hc⟩
  replace kk := kk.trans (hc.below (B0 := w.heap.size) (by omega) kk.size)
  have z4 : w3.heap.size ≤ w4.heap.size := hc.size
  replace RW := RW.chg hc (by omega)
  clear RG hc
  have hqq : ¬ (1 + 2 * (V.length : Int) < 0) := by omega
  go_wp2_with fail
  refine (Sets.laws_held AG _ cG 1 (by omega) (by omega) HL.out _ RG'.rd).mono ?_
  rintro e9 wz ⟨rfl, rfl⟩
  go_wp2_with fail
  refine (HI.out _).mono ?_
  rintro e9 w5 ⟨AH, cH, rfl, RH, b⟩
  have z5 : w4.heap.size ≤ w5.heap.size := b.size
  replace kk := kk.trans (b.mono kk.size)
  replace RW := RW.below b
  replace RG' := RG'.below b
  clear b
  go_wp2_with fail
  refine (Sets.laws_eqSpans AH AW _ _ _ V HL.out _ RH.rd RW.rd).mono ?_
  rintro e9 w6 ⟨rfl, b⟩
  have z6 : w5.heap.size ≤ w6.heap.size := b.size
  replace kk := kk.trans (b.mono kk.size)
  replace RG' := RG'.below b
  clear b
  go_wp2_with fail
  refine (Sets.laws_held AG _ cG 1 (by omega) (by omega) HL.out _ RG'.rd).mono ?_
  rintro e9 wz ⟨rfl, rfl⟩
  go_wp2_with fail
  go_ret
  exact ⟨rfl, kk⟩

theorem _root_.Go.Proofs.Ytfienklaafialaa.St.keep7 {x : Nat × TypeId × Array Value} {w0 w w' : World} {B : Nat} (h : St [x] w0 w) (hb : Below B w w') (hx : x.1 < B) (hw : w0.heap.size ≤ B := by omega) : St [x] w0 w' :=
  ⟨fun y hy => by
    rcases List.mem_singleton.1 hy with rfl
    exact (h.blk y hy).below hb hx, h.bel.trans (hb.mono hw), h.old⟩

set_option maxHeartbeats 4000000 in
set_option maxRecDepth 100000 in
theorem walk_FnExactYearsMarked (a e c : Int) (_h0 : (Lit.int .i64 a).wf = true) (_h1 : (Lit.int .i64 e).wf = true) (_h2 : (Lit.int .i64 c).wf = true) (f : Int) (_h3 : (Lit.int .i64 f).wf = true) (t : Int) (_h4 : (Lit.int .i64 t).wf = true) (w : World) : Calls Try.prog 11 #[mV a e c, .int .i64 f, .int .i64 t] w (Bl true w) := by
  obtain ⟨V, E, HL, HS, HI⟩ : ∃ (V : List Int) (E : Int), Hid (V.length ≤ 2000000) ∧ Hid (∀ wx : World, Calls Try.prog 36 #[mV a e c, .int .i64 f, .int .i64 t] wx (Fea.IntsOut V E wx)) ∧ Hid (∀ wx : World, Calls Try.prog 35 #[mV a e c, .int .i64 f, .int .i64 t] wx (Fea.IntsOut V E wx)) :=
    ⟨_, _, Lib.hid (ym_len2 a e c f t), Lib.hid fun wx => spec_YearsMarked a e c f t wx, Lib.hid fun wx => impl_YearsMarked a e c f t wx⟩
  have T := Lib.hid (laws_toMark a e c)
  unfold mV at T HS HI ⊢
  have M0 := (St.start w).alloc 56 #[.int .i64 a, .int .i64 e, .int .i64 c]
  have zM : (w.alloc (.cells #[.int .i64 a, .int .i64 e, .int .i64 c] 56)).heap.size = w.heap.size + 1 := by simp
  clear _h0 _h1 _h2 _h3 _h4
  have kk := M0.bel
  go_enter Try.func11, Try.ntmps11
  obtain ⟨c0, c1, c2⟩ := M0.b0.three
  go_wp2_with fail
  refine (T.out _).mono ?_
  rintro e9 w1 ⟨rfl, b⟩
  have z1 : (w.alloc (.cells #[.int .i64 a, .int .i64 e, .int .i64 c] 56)).heap.size ≤ w1.heap.size := b.size
  replace kk := kk.trans (b.mono kk.size)
  replace M0 := M0.call b
  clear c0 c1 c2
  go_wp2_with fail
  refine (HS.out _).mono ?_
  rintro e9 w2 ⟨AW, cW, rfl, RW, b⟩
  have z2 : w1.heap.size ≤ w2.heap.size := b.size
  replace kk := kk.trans (b.mono kk.size)
  replace M0 := M0.call b
  clear b
  obtain ⟨c0, c1, c2⟩ := M0.b0.three
  go_wp2_with fail
  refine (T.out _).mono ?_
  rintro e9 w3 ⟨rfl, b⟩
  have z3 : w2.heap.size ≤ w3.heap.size := b.size
  replace kk := kk.trans (b.mono kk.size)
  replace M0 := M0.call b
  clear c0 c1 c2
  replace RW := RW.below b
  go_wp2_with fail
  refine (HI.out _).mono ?_
  rintro e9 w4 ⟨AG, cG, rfl, RG, b⟩
  have z4 : w3.heap.size ≤ w4.heap.size := b.size
  replace kk := kk.trans (b.mono kk.size)
  replace M0 := M0.call b
  replace RW := RW.below b
  clear b
  go_wp2_with fail
  refine (Ints.laws_eqInts AG AW _ _ _ V HL.out _ RG.rd RW.rd).mono ?_
  rintro e9 w5 ⟨rfl, b⟩
  have z5 : w4.heap.size ≤ w5.heap.size := b.size
  replace kk := kk.trans (b.mono kk.size)
  replace M0 := M0.call b
  replace RW := RW.below b
  replace RG := RG.below b
  clear b
  have hM := M0.b0.lt
  go_wp2_with fail
  refine (Ints.laws_mark AG _ _ _ _ V 1 (by omega) (by omega) HL.out _ RG).mono ?_
  rintro e9 w6 ⟨rfl, RG', hc⟩
  replace kk := kk.trans (hc.below (B0 := w.heap.size) (by omega) kk.size)
  have z6 : w5.heap.size ≤ w6.heap.size := hc.size
  replace RW := RW.chg hc (by omega)
  have hcm := hc.below (B0 := w.heap.size + 1) (by omega) (by omega)
  replace M0 := M0.keep7 hcm (Nat.lt_succ_self _)
  clear RG hc
  have hqq : ¬ (1 + (V.length : Int) < 0) := by omega
  go_wp2_with fail
  refine (Ints.laws_held AG _ cG 1 (by omega) (by omega) HL.out _ RG'.rd).mono ?_
  rintro e9 wz ⟨rfl, rfl⟩
  obtain ⟨c0, c1, c2⟩ := M0.b0.three
  go_wp2_with fail
  refine (T.out _).mono ?_
  rintro e9 w7 ⟨rfl, b⟩
  have z7 : w6.heap.size ≤ w7.heap.size := b.size
  replace kk := kk.trans (b.mono kk.size)
  replace M0 := M0.call b
  clear c0 c1 c2
  replace RW := RW.below b
  replace RG' := RG'.below b
  go_wp2_with fail
  refine (HI.out _).mono ?_
  rintro e9 w8 ⟨AH, cH, rfl, RH, b⟩
  have z8 : w7.heap.size ≤ w8.heap.size := b.size
  replace kk := kk.trans (b.mono kk.size)
  replace M0 := M0.call b
  replace RW := RW.below b
  replace RG' := RG'.below b
  clear b
  go_wp2_with fail
  refine (Ints.laws_eqInts AH AW _ _ _ V HL.out _ RH.rd RW.rd).mono ?_
  rintro e9 w9 ⟨rfl, b⟩
  have z9 : w8.heap.size ≤ w9.heap.size := b.size
  replace kk := kk.trans (b.mono kk.size)
  replace M0 := M0.call b
  replace RG' := RG'.below b
  clear b
  go_wp2_with fail
  refine (Ints.laws_held AG _ cG 1 (by omega) (by omega) HL.out _ RG'.rd).mono ?_
  rintro e9 wz ⟨rfl, rfl⟩
  go_wp2_with fail
  go_ret
  exact ⟨rfl, kk⟩

end Go.Proofs.Ytfienklaafialaa.Ind
