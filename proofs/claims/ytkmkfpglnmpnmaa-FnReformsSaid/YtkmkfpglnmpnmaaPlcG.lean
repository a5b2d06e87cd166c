/- Contracts of spec's draws of calendars, dates, days and years. -/
import Derived.Test.YtkmkfpglnmpnmaaDraw5
import Derived.Test.YtkmkfpglnmpnmaaPlcI
namespace Go.Proofs.Ytkmkfpglnmpnmaa.Plc
open Go.RowKit

/-- What a call leaves that draws a calendar. -/
def DrewCal (A : Option Addr) (len cap : Nat) (zs : List Int) (W w : World) (g : Nat) (e : Ending) (w' : World) : Prop :=
  ∃ R : Int, e = .returned (.agg #[.int .i64 R]) ∧ (199999 ≤ R ∧ R ≤ 730500) ∧ Src A len cap zs W w' g ∧ w.grownBy w' (some g)

theorem grown_set {w w' : World} {g : Nat} (h : w.grownBy w' (some g)) {b : Nat} (hb : w.heap.size ≤ b) (i : Nat) (u : Value) : w.grownBy (w'.setCell ⟨b, i, none⟩ u) (some g) := only_setCell h (.inr hb) u
theorem src_set {A : Option Addr} {len cap : Nat} {zs : List Int} {W w : World} {g : Nat} (h : Src A len cap zs W w g) {b : Nat} (hb : b ≠ g) (hW : W.heap.size ≤ b) (i : Nat) (u : Value) : Src A len cap zs W (w.setCell ⟨b, i, none⟩ u) g := h.setCell (p := ⟨b, i, none⟩) hb hW u

set_option maxHeartbeats 2000000 in
theorem spec_l03Draw (A : Option Addr) (len cap : Nat) (zs : List Int) (W w : World) (g : Nat) (hs : Src A len cap zs W w g) (hW : W.heap.size ≤ w.heap.size) :
    Calls Try.prog 83 #[.pointer (some ⟨g, 0, none⟩)] w (DrewCal A len cap zs W w g) := by
  have hl := hs.lt
  go_enter Try.func83, Try.ntmps83
  have k0 := only_alloc (World.grownBy.refl w (some g)) (.cells #[.int .i64 0] 35)
  have q0 := Blk.new w 35 #[.int .i64 0]
  have s0 := hs.alloc (.cells #[.int .i64 0] 35)
  go_wp2_with fail
  refine (spec_next A len cap zs W _ g 12 s0).mono ?_
  rintro e w1 ⟨x, rfl, x0, x1, s1, k1⟩
  have q1 := q0.grown k1 (fun e => by injection e; omega)
  have g1 := World.grownBy.trans k0 k1
  have l1 := g1.size
  clear q0 k0 s0 k1 x1
  by_cases h0 : x = 0
  · subst h0
    go_wp2_with fail
    refine (spec_pick A len cap zs W _ g _ 6 _ [199999, 200000, 730486, 730487, 730500, 730499] (fun y => 199999 ≤ y ∧ y ≤ 730500) (s1.alloc _) (Blk.new _ _ _) (by have := s1.lt; omega) rfl (by omega) (by omega) (by simp)).mono ?_
    rintro e w2 ⟨R, rfl, hR, s2, k2⟩
    have q2 := (q1.alloc _).grown k2 (fun e => by injection e; omega)
    have g2 := (only_alloc g1 _).trans k2
    have c0 := q2.cell 0
    simp only [List.getElem?_toArray, List.getElem?_cons_zero] at c0
    have f0 := q2.frozen 0
    have HR := Lib.hid hR
    clear hR k2 q1 g1 s1
    go_wp2_with fail
    refine bodyPost_ret (v := .agg #[.int .i64 R]) (by simp [results, Try.results83, go_sem, c0]) rfl ⟨R, rfl, HR.out, src_set s2 (by omega) hW _ _, grown_set g2 (Nat.le_refl _) _ _⟩
  · have e0 : (x == 0) = false := by simpa using h0
    clear h0
    go_wp2_with fail
    refine (spec_next A len cap zs W _ g 200000 s1).mono ?_
    rintro e w2 ⟨a, rfl, a0, a1, s2, k2⟩
    have a2 : a < 200000 := by omega
    have q2 := q1.grown k2 (fun e => by injection e; omega)
    have g2 := g1.trans k2
    clear a1 q1 g1 s1 k2
    go_wp2_with fail
    refine (spec_next A len cap zs W _ g 400000 s2).mono ?_
    rintro e w3 ⟨b, rfl, b0, b1, s3, k3⟩
    have b2 : b < 400000 := by omega
    have q3 := q2.grown k3 (fun e => by injection e; omega)
    have g3 := g2.trans k3
    have l3 := g3.size
    clear b1 q2 g2 s2 k3
    go_wp2_with fail
    refine (spec_pick A len cap zs W _ g _ 5 _ [577737, 639798, 730500, 500000 + a, 200000 + b] (fun y => 199999 ≤ y ∧ y ≤ 730500) (s3.alloc _) (Blk.new _ _ _) (by have := s3.lt; omega) rfl (by omega) (by omega) (by intro z hz; simp at hz; omega)).mono ?_
    rintro e w4 ⟨R, rfl, hR, s4, k4⟩
    have q4 := (q3.alloc _).grown k4 (fun e => by injection e; omega)
    have g4 := (only_alloc g3 _).trans k4
    have c0 := q4.cell 0
    simp only [List.getElem?_toArray, List.getElem?_cons_zero] at c0
    have f0 := q4.frozen 0
    have HR := Lib.hid hR
    clear hR k4 q3 g3 s3
    go_wp2_with fail
    refine bodyPost_ret (v := .agg #[.int .i64 R]) (by simp [results, Try.results83, go_sem, c0]) rfl ⟨R, rfl, HR.out, src_set s4 (by omega) hW _ _, grown_set g4 (Nat.le_refl _) _ _⟩

end Go.Proofs.Ytkmkfpglnmpnmaa.Plc
