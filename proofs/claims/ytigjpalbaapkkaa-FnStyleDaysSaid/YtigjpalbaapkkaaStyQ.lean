/- Packs for the law FnStyleDays. -/
import Derived.Test.YtigjpalbaapkkaaStyP
import Derived.Laws.StructEq
namespace Go.Proofs.Ytigjpalbaapkkaa.Sty
open Go.RowKit
open Go.Proofs.Ytigjpalbaapkkaa.Fea (mlenN mlen2 yr)
open Go.Proofs.Ytigjpalbaapkkaa.Eas (cum_3)

theorem cum_near (y z m : Int) (h1 : 1 ≤ m) (h2 : m ≤ 12) : Cal.cum false y m ≤ Cal.cum false z m + 1 := by
  have c1 := Cal.cum_one false y
  have c3 := cum_3 false y
  have c2 := Cal.cum_succ false y 1 (by omega)
  have c4 := Cal.cum_succ false y 3 (by omega)
  have c5 := Cal.cum_succ false y 4 (by omega)
  have c6 := Cal.cum_succ false y 5 (by omega)
  have c7 := Cal.cum_succ false y 6 (by omega)
  have c8 := Cal.cum_succ false y 7 (by omega)
  have c9 := Cal.cum_succ false y 8 (by omega)
  have c10 := Cal.cum_succ false y 9 (by omega)
  have c11 := Cal.cum_succ false y 10 (by omega)
  have c12 := Cal.cum_succ false y 11 (by omega)
  have k1 := Cal.cum_one false z
  have k3 := cum_3 false z
  have k2 := Cal.cum_succ false z 1 (by omega)
  have k4 := Cal.cum_succ false z 3 (by omega)
  have k5 := Cal.cum_succ false z 4 (by omega)
  have k6 := Cal.cum_succ false z 5 (by omega)
  have k7 := Cal.cum_succ false z 6 (by omega)
  have k8 := Cal.cum_succ false z 7 (by omega)
  have k9 := Cal.cum_succ false z 8 (by omega)
  have k10 := Cal.cum_succ false z 9 (by omega)
  have k11 := Cal.cum_succ false z 10 (by omega)
  have k12 := Cal.cum_succ false z 11 (by omega)
  rw [mlenN _ _ _ (by omega)] at c2 c4 c5 c6 c7 c8 c9 c10 c11 c12 k2 k4 k5 k6 k7 k8 k9 k10 k11 k12
  simp at c2 c4 c5 c6 c7 c8 c9 c10 c11 c12 k2 k4 k5 k6 k7 k8 k9 k10 k11 k12
  have hv : 0 ≤ (if Cal.lp false y then (1 : Int) else 0) ∧ (if Cal.lp false y then (1 : Int) else 0) ≤ 1 := by split <;> omega
  have hw : 0 ≤ (if Cal.lp false z then (1 : Int) else 0) ∧ (if Cal.lp false z then (1 : Int) else 0) ≤ 1 := by split <;> omega
  generalize (if Cal.lp false y then (1 : Int) else 0) = v at *
  generalize (if Cal.lp false z then (1 : Int) else 0) = v' at *
  have h : m = 1 ∨ m = 2 ∨ m = 3 ∨ m = 4 ∨ m = 5 ∨ m = 6 ∨ m = 7 ∨ m = 8 ∨ m = 9 ∨ m = 10 ∨ m = 11 ∨ m = 12 := by omega
  rcases h with rfl | rfl | rfl | rfl | rfl | rfl | rfl | rfl | rfl | rfl | rfl | rfl <;> omega
theorem num_far {y z m d : Int} (hy : Cal.valid false y m d) (h : y + 2 ≤ z) : Cal.num false y m d + 729 ≤ Cal.num false z m d := by
  have a := Cal.ys_mono false y z (by omega)
  have b := cum_near y z m hy.2.2.1 hy.2.2.2.1
  unfold Cal.num
  have : 365 * (z - y) ≥ 730 := by omega
  omega
/-- A date comes twice in a year at most. -/
theorem DwAns.two {s y m d : Int} {V : List Int} {E : Int} (h : DwAns s y m d V E) : V.length ≤ 2 := by
  rcases h with ⟨-, -, -, h4, h5⟩ | ⟨-, -, rfl⟩
  · match V, h4, h5 with
    | [], _, _ => simp
    | [a], _, _ => simp
    | [a, b], _, _ => simp
    | a :: b :: c :: r, h4, h5 =>
      exfalso
      obtain ⟨p1, q1, r1, s1⟩ := h4
      obtain ⟨a0, a1, Y1, v1, e1⟩ := (h5 a).1 (by simp)
      obtain ⟨b0, b1, Y2, v2, e2⟩ := (h5 b).1 (by simp)
      obtain ⟨c0, c1, Y3, v3, e3⟩ := (h5 c).1 (by simp)
      have hc : b + 1 ≤ c := r1
      have y1 := Fea.yr_num v1 e1
      have y2 := Fea.yr_num v2 e2
      have y3 := Fea.yr_num v3 e3
      have m1 := yr_monoS (show a ≤ b by omega)
      have m2 := yr_monoS (show b ≤ c by omega)
      have n1 : Y1 ≠ Y2 := fun e => by subst e; omega
      have n2 : Y2 ≠ Y3 := fun e => by subst e; omega
      have f := num_far (z := Y3) v1 (by omega)
      rw [e1, e3] at f
      have g := (bg_all s y).2.2.2
      omega
  · simp

theorem dw_pack (s y m d : Int) : ∃ (V : List Int) (E : Int), Hid (V.length ≤ 2) ∧ Hid (∀ wx : World, Calls Try.prog 34 #[.int .i64 s, .int .i64 y, .int .i64 m, .int .i64 d] wx (Fea.IntsOut V E wx)) ∧ Hid (∀ wx : World, Calls Try.prog 35 #[.int .i64 s, .int .i64 y, .int .i64 m, .int .i64 d] wx (Fea.IntsOut V E wx)) ∧
    Hid (E = 2 ∨ (E = 0 ∧ ∀ x ∈ V, (∀ wx : World, Calls Try.prog 17 #[.int .i64 s, .int .i64 x] wx (Two y 0 wx)) ∧ ∀ wx : World, Calls Try.prog 40 #[.int .i64 x] wx fun e w' => ∃ Y : Int, e = .returned (.tuple #[.agg #[.int .i64 Y, .int .i64 m, .int .i64 d], .int .i64 0]) ∧ Below wx.heap.size wx w')) := by
  obtain ⟨V, E, h⟩ := dw_ex s y m d
  refine ⟨V, E, Lib.hid h.two, Lib.hid fun wx => (impl_DaysWith s y m d wx).mono fun _ _ q => q.fix h, Lib.hid fun wx => (spec_DaysWith s y m d wx).mono fun _ _ q => q.fix h, Lib.hid ?_⟩
  rcases h with ⟨h1, h2, -, -, h5⟩ | ⟨-, h2, -⟩
  · refine .inr ⟨h2, fun x hx => ?_⟩
    obtain ⟨a, b, Y, hv, e⟩ := (h5 x).1 hx
    obtain ⟨⟨hs, hy⟩, -⟩ := h1
    have ho : OnIs s x y := ⟨hy, a, b⟩
    have b1 := bg_bd2 s y hy.1 (by have := hy.2; omega)
    have b2 := bg_bd2 s (y + 1) (by have := hy.1; omega) (by have := hy.2; omega)
    have hok : yoOk s x := ⟨hs, by omega, by omega⟩
    refine ⟨fun wx => ?_, fun wx => ?_⟩
    · have q := impl_YearOn s x wx
      have := on_of ho
      rwa [show yoN s x = y from (if_pos hok).trans this.1, show yoE s x = 0 from (if_pos hok).trans (if_pos this.2)] at q
    · refine (impl_OldDate x wx).mono fun e' w' q => ?_
      obtain ⟨y', m', d', c', he, hd, hb⟩ := q
      rcases hd with ⟨-, -, rfl, hv', hn'⟩ | ⟨h9, -⟩
      · obtain ⟨-, rfl, rfl⟩ := Cal.num_inj false hv' hv (hn'.trans e.symm)
        exact ⟨y', he, hb⟩
      · exfalso
        rw [Cal.ys_1, Cal.ys_2001] at h9
        simp at h9
        omega
  · exact .inl h2

theorem sp_pack (s y : Int) (_hy : sylish y) : ∃ F T C L : Int, Hid (∀ wx : World, Calls Try.prog 32 #[.int .i64 s, .int .i64 y] wx (SpO F T C wx)) ∧ Hid (∀ wx : World, Calls Try.prog 37 #[.int .i64 s, .int .i64 y] wx (SpO F T C wx)) ∧
    Hid (∀ wx : World, Calls Try.prog 38 #[.int .i64 s, .int .i64 y] wx (Two L C wx)) ∧ Hid (∀ wx : World, Calls Try.prog 39 #[.int .i64 s, .int .i64 y] wx (Two L C wx)) ∧
    Hid ((C == 0) = false ∨ (C = 0 ∧ L = T - F + 1 ∧ 329 ≤ L ∧ L ≤ 401 ∧ 0 ≤ F ∧ F ≤ 730499 ∧ ∃ F2 T2 C2 : Int, Hid (∀ wx : World, Calls Try.prog 32 #[.int .i64 s, .int .i64 (y + 1)] wx (SpO F2 T2 C2 wx)) ∧ (C2 = 2 ∨ (C2 = 0 ∧ F2 = T + 1)))) := by
  refine ⟨_, _, _, _, Lib.hid fun wx => impl_YearSpan s y wx, Lib.hid fun wx => spec_YearSpan s y wx, Lib.hid fun wx => impl_LengthOfYear s y wx, Lib.hid fun wx => spec_LengthOfYear s y wx, Lib.hid ?_⟩
  by_cases h : spOk s y
  · obtain ⟨-, -, g1, g2⟩ := bg_all s y
    obtain ⟨b1, b2⟩ := bg_bd2 s y h.2.1 (by have := h.2.2; omega)
    rw [show spE s y = 0 from if_pos h, show spF s y = bg s y from if_pos h, show spT s y = bg s (y + 1) - 1 from if_pos h, show lyN s y = bg s (y + 1) - bg s y from if_pos h]
    refine .inr ⟨rfl, by omega, by omega, by omega, b1, b2, _, _, _, Lib.hid fun wx => impl_YearSpan s (y + 1) wx, ?_⟩
    by_cases h2 : spOk s (y + 1)
    · exact .inr ⟨if_pos h2, (if_pos h2).trans (by omega)⟩
    · exact .inl (if_neg h2)
  · rw [show spE s y = 2 from if_neg h]
    exact .inl rfl

theorem neq_span (f t : Int) (w : World) : (binOp .neq 40 (.agg #[.int .i64 f, .int .i64 t]) (.agg #[.int .i64 f, .int .i64 t])).run Try.prog w = .ok (.bool false) w := by
  have hS : Try.prog.underlying 40 = some (.struct (Try.prog.fieldsOf 40)) := by kernel_rfl
  have hp : Try.prog.stoodInHeld 40 = false := by kernel_rfl
  rw [run_neq_struct, show (10000 : Nat) = 9999 + 1 from rfl, run_equalIn_agg w 9999 40 _ _ hS hp]
  simp only [Program.fieldsOf, Try.underlying40]
  go_simp
  try simp

end Go.Proofs.Ytigjpalbaapkkaa.Sty
