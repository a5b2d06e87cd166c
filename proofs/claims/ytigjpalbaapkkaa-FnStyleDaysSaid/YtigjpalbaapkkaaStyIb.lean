/- Contracts of impl's span of a year, of the year of a day. -/
import Derived.Test.YtigjpalbaapkkaaStyIa
import Derived.Test.YtigjpalbaapkkaaHas
namespace Go.Proofs.Ytigjpalbaapkkaa.Sty
open Go.RowKit
open Go.Proofs.Ytigjpalbaapkkaa.Eas (isY It)
open Go.Proofs.Ytigjpalbaapkkaa.Fea (yr yr_isY yr_num bs isDay)
open Go.Proofs.Ytigjpalbaapkkaa.Sets (impl_spanHas)

theorem impl_style_yes (s : Int) (h : isS s) (w : World) : Calls Try.prog 69 #[.int .i64 s] w fun e w' => e = .returned (.bool true) ∧ w = w' := by
  obtain ⟨h0, h1⟩ := h
  have h2 : s < 7 := by omega
  go_enter Try.func69, Try.ntmps69
  go_wp2
  go_ret
  exact ⟨rfl, rfl⟩

theorem impl_style_no (s : Int) (h : ¬ isS s) (w : World) : Calls Try.prog 69 #[.int .i64 s] w fun e w' => e = .returned (.bool false) ∧ w = w' := by
  by_cases h0 : 0 ≤ s
  · have h2 : decide (s < 7) = false := by unfold isS at h; simp; omega
    clear h
    go_enter Try.func69, Try.ntmps69
    go_wp2
    go_ret
    exact ⟨rfl, rfl⟩
  · have h2 : decide (0 ≤ s) = false := by simpa using h0
    clear h
    go_enter Try.func69, Try.ntmps69
    go_wp2
    go_ret
    exact ⟨rfl, rfl⟩

theorem impl_syear_yes (s : Int) (h : isT s) (w : World) : Calls Try.prog 78 #[.int .i64 s] w fun e w' => e = .returned (.bool true) ∧ w = w' := by
  obtain ⟨h0, h1⟩ := h
  go_enter Try.func78, Try.ntmps78
  go_wp2
  go_ret
  exact ⟨rfl, rfl⟩

theorem impl_syear_no (s : Int) (h : ¬ isT s) (w : World) : Calls Try.prog 78 #[.int .i64 s] w fun e w' => e = .returned (.bool false) ∧ w = w' := by
  by_cases h0 : 2 ≤ s
  · have h2 : decide (s ≤ 1999) = false := by unfold isT at h; simp; omega
    clear h
    go_enter Try.func78, Try.ntmps78
    go_wp2
    go_ret
    exact ⟨rfl, rfl⟩
  · have h2 : decide (2 ≤ s) = false := by simpa using h0
    clear h
    go_enter Try.func78, Try.ntmps78
    go_wp2
    go_ret
    exact ⟨rfl, rfl⟩

theorem impl_day_yes (n : Int) (h : isDay n) (w : World) : Calls Try.prog 70 #[.int .i64 n] w fun e w' => e = .returned (.bool true) ∧ w = w' := Sets.impl_isDay n true (decide_eq_true h) w
theorem impl_day_no (n : Int) (h : ¬ isDay n) (w : World) : Calls Try.prog 70 #[.int .i64 n] w fun e w' => e = .returned (.bool false) ∧ w = w' := Sets.impl_isDay n false (decide_eq_false h) w

/-- What a call leaves that answers a span. -/
def SpI (f t : Int) (w : World) (e : Ending) (w' : World) : Prop := e = .returned (.agg #[.int .i64 f, .int .i64 t]) ∧ Below w.heap.size w w'
theorem _root_.Go.Proofs.Ytigjpalbaapkkaa.St.sty2 {g t g1 t1 : Nat} {a b : Value} {V : Array Value} {L : List (Nat × TypeId × Array Value)} {w0 w : World} (h : St ((g1, t1, V) :: (g, t, #[a, b]) :: L) w0 w) :
    w.cell? ⟨g, 0, none⟩ = some a ∧ w.cell? ⟨g, 1, none⟩ = some b ∧ St ((g1, t1, V) :: (g, t, #[a, b]) :: L) w0 w := ⟨h.b1.cell 0, h.b1.cell 1, h⟩
theorem _root_.Go.Proofs.Ytigjpalbaapkkaa.St.sty3 {g t g1 t1 : Nat} {a b : Value} {V : Array Value} {L : List (Nat × TypeId × Array Value)} {w0 w : World} (h : St ((g1, t1, V) :: (g, t, #[a, b]) :: L) w0 w) :
    w.cell? ⟨g, 0, none⟩ = some a ∧ w.cell? ⟨g, 1, none⟩ = some b := ⟨h.b1.cell 0, h.b1.cell 1⟩
theorem sty_far {w : World} {g : Nat} {a b v u : Value} (k : w.cell? ⟨g, 0, none⟩ = some a ∧ w.cell? ⟨g, 1, none⟩ = some b) :
    ((w.setCell ⟨g + 1, 0, none⟩ v).setCell ⟨g + 1, 1, none⟩ u).cell? ⟨g, 0, none⟩ = some a ∧ ((w.setCell ⟨g + 1, 0, none⟩ v).setCell ⟨g + 1, 1, none⟩ u).cell? ⟨g, 1, none⟩ = some b :=
  ⟨((World.cell?_setCell_far _ _ _ _ (by simp)).trans (World.cell?_setCell_far _ _ _ _ (by simp))).trans k.1, ((World.cell?_setCell_far _ _ _ _ (by simp)).trans (World.cell?_setCell_far _ _ _ _ (by simp))).trans k.2⟩
theorem _root_.Go.Proofs.Ytigjpalbaapkkaa.St.styS {g t : Nat} {a b : Value} {L : List (Nat × TypeId × Array Value)} {w0 w : World} (h : St ((g, t, #[a, b]) :: L) w0 w) :
    w.cell? ⟨g, 0, none⟩ = some a ∧ w.cell? ⟨g, 1, none⟩ = some b ∧ w.frozen? ⟨g, 0, none⟩ = false ∧ w.frozen? ⟨g, 1, none⟩ = false := ⟨h.b0.cell 0, h.b0.cell 1, h.b0.frozen 0, h.b0.frozen 1⟩
theorem _root_.Go.Proofs.Ytigjpalbaapkkaa.St.drS {L : List (Nat × TypeId × Array Value)} {w0 w : World} (h : St L w0 w) : St L w0 w.drew := h.drewN 1

set_option maxHeartbeats 1000000 in
theorem impl_rspan_nat (j : Nat) (hj : j < 7) (y : Int) (hy : isT y) (w : World) : Calls Try.prog 79 #[stV j, .int .i64 y] w (SpI (bg j y) (bg j (y + 1) - 1) w) := by
  have B := Lib.hid (impl_bgF j hj y hy.1 (by have := hy.2; omega))
  have B2 := Lib.hid (impl_bgF j hj (y + 1) (by have := hy.1; omega) (by have := hy.2; omega))
  have eg := stF_enters j hj
  obtain ⟨x0, x1⟩ := bg_bd2 j (y + 1) (by have := hy.1; omega) (by have := hy.2; omega)
  obtain ⟨h0, h1⟩ := hy
  have hy1 : IntKind.i64.wrap (y + 1) = y + 1 := IntWalk.i64_in _ ⟨by omega, by omega⟩
  unfold stV
  generalize bs (snL (j : Int)) = s
  generalize stF j = g at *
  have S0 := ((St.start w).alloc 83 #[.string s, .func (.func g) #[] #[]]).alloc 40 #[.int .i64 0, .int .i64 0]
  simp only [World.size_alloc] at S0
  generalize bg j y = a at *
  generalize bg j (y + 1) = b at *
  have hb1 : IntKind.i64.wrap (b - 1) = b - 1 := IntWalk.i64_in _ ⟨by omega, by omega⟩
  clear hj
  go_enter Try.func79, Try.ntmps79
  go_wp2_with fail
  go_region_held3 (fun w' => w'.cell? ⟨w.heap.size, 0, none⟩ = some (.string s) ∧ w'.cell? ⟨w.heap.size, 1, none⟩ = some (.func (.func g) #[] #[]))
    (first | with_reducible exact S0.drS.sty3 | with_reducible exact SR.sty3 | with_reducible exact ST.sty3 | exact sty_far ST.sty3)
    (first
      | ((with_reducible refine (B.out _).mono ?_); rintro e wr ⟨rfl, hr⟩; have SR := S0.drS.call hr)
      | ((with_reducible refine (B2.out _).mono ?_); rintro e wt ⟨rfl, ht⟩; have ST := SR.call ht; obtain ⟨c0, c1, z0, z1⟩ := ST.styS))
  have hb := (ST.bel.setCell (p := ⟨w.heap.size + 1, 0, none⟩) (by simp) (.int .i64 a)).setCell (p := ⟨w.heap.size + 1, 1, none⟩) (by simp) (.int .i64 (b - 1))
  clear B B2 hr ht
  go_wp2_with fail
  refine bodyPost_ret (v := .agg #[.int .i64 a, .int .i64 (b - 1)]) (by simp [results, Try.results79, go_sem, c0, c1]) rfl ⟨rfl, hb⟩

end Go.Proofs.Ytigjpalbaapkkaa.Sty
