/- Blocks of the call's own beside a source of drawn numbers; spec's drawing of a year and the draws of chapter 4. -/
import Derived.Test.YtegoiiconhgjbaaDraw5
import Derived.Test.YtegoiiconhgjbaaPlcG
import Derived.Deep.RegionHeld3
import Derived.Deep.RegionWith
namespace Go.Proofs.Ytegoiiconhgjbaa.Eas
open Go.RowKit
open Go.Proofs.Ytegoiiconhgjbaa.Plc

theorem grown_set {w w' : World} {g : Nat} (h : w.grownBy w' (some g)) {b : Nat} (hb : w.heap.size ≤ b) (i : Nat) (u : Value) : w.grownBy (w'.setCell ⟨b, i, none⟩ u) (some g) := only_setCell h (.inr hb) u
theorem src_set {A : Option Addr} {len cap : Nat} {zs : List Int} {W w : World} {g : Nat} (h : Src A len cap zs W w g) {b : Nat} (hb : b ≠ g) (hW : W.heap.size ≤ b) (i : Nat) (u : Value) : Src A len cap zs W (w.setCell ⟨b, i, none⟩ u) g := h.setCell (p := ⟨b, i, none⟩) hb hW u

def yearish (x : Int) : Prop := 0 ≤ x ∧ x ≤ 2001

set_option maxHeartbeats 1000000 in
theorem spec_drawYear (A : Option Addr) (len cap : Nat) (zs : List Int) (W w : World) (g : Nat) (hs : Src A len cap zs W w g) :
    Calls Try.prog 68 #[.pointer (some ⟨g, 0, none⟩)] w (DrewP A len cap zs W w g yearish) := by
  have hl := hs.lt
  go_enter Try.func68, Try.ntmps68
  go_wp2_with fail
  refine (spec_next A len cap zs W _ g 20 hs).mono ?_
  rintro e w1 ⟨x1, rfl, a1, b1, s1, k1⟩
  clear b1
  by_cases h0 : x1 = 0
  · subst h0
    have z1 := k1.size
    go_wp2_with fail
    refine (spec_pick A len cap zs W _ g _ 6 _ [0, 1, 1582, 1583, 2000, 2001] yearish (s1.alloc _) (Blk.new _ _ _) (by omega) rfl (by omega) (by omega) (by simp [yearish])).mono ?_
    rintro e w2 ⟨x2, rfl, a2, s2, k2⟩
    go_wp2_with fail
    go_ret
    exact ⟨x2, rfl, a2, s2, (only_alloc k1 _).trans k2⟩
  · have e0 : (x1 == 0) = false := by simpa using h0
    clear h0
    go_wp2_with fail
    refine (spec_next A len cap zs W _ g 2000 s1).mono ?_
    rintro e w2 ⟨x2, rfl, a2, b2, s2, k2⟩
    have b3 : x2 < 2000 := by omega
    have HD := Lib.hid (show yearish (1 + x2) from ⟨by omega, by omega⟩)
    clear b2
    go_wp2_with fail
    go_ret
    exact ⟨1 + x2, rfl, HD.out, s2, k1.trans k2⟩

set_option maxHeartbeats 1000000 in
theorem spec_DrawSundayLetters (A : Option Addr) (len cap : Nat) (zs : List Int) (W w : World) (hrow : IsRow .u8 W A len cap zs) (hW : Below W.heap.size W w) :
    Calls Try.prog 19 #[.slice A len cap] w (DrawnP yearish w) := by
  go_enter Try.func19, Try.ntmps19
  go_wp2_with fail
  refine (spec_from A len cap zs W _ hrow hW).mono ?_
  rintro e w1 ⟨g, rfl, hg, hs, hb⟩
  go_wp2_with fail
  refine (spec_drawYear A len cap zs W _ g hs).mono ?_
  rintro e w2 ⟨x, rfl, hx, s2, k2⟩
  go_wp2_with fail
  go_ret
  exact ⟨x, rfl, hx, hb.trans (only_below k2 hg hb.size)⟩

def DrawnCY (w : World) (e : Ending) (w' : World) : Prop := ∃ R y : Int, e = .returned (.tuple #[.agg #[.int .i64 R], .int .i64 y]) ∧ (199999 ≤ R ∧ R ≤ 730500) ∧ yearish y ∧ Below w.heap.size w w'
def DrawnYs (w : World) (e : Ending) (w' : World) : Prop := ∃ m d f t : Int, e = .returned (.tuple #[.int .i64 m, .int .i64 d, .int .i64 f, .int .i64 t]) ∧ (0 ≤ m ∧ m ≤ 13) ∧ (0 ≤ d ∧ d ≤ 31) ∧ yearish f ∧ (-1 ≤ t ∧ t ≤ 2602) ∧ Below w.heap.size w w'

end Go.Proofs.Ytegoiiconhgjbaa.Eas
