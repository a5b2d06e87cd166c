/- Contracts of spec's drawing of a day, and of the draws of chapter 1 that the laws call. -/
import Derived.Test.YtfhcakpmlppbkaaGreatDoorDraw4
namespace Go.Proofs.YtfhcakpmlppbkaaGreatDoor
open Go.RowKit

/-- What a call leaves that draws a number with a property out of some bytes. -/
def DrawnP (P : Int → Prop) (w : World) (e : Ending) (w' : World) : Prop := ∃ x : Int, e = .returned (.int .i64 x) ∧ P x ∧ Below w.heap.size w w'
/-- What a call leaves that draws a date out of some bytes. -/
def DrawnDate (w : World) (e : Ending) (w' : World) : Prop :=
  ∃ y m d : Int, e = .returned (.agg #[.int .i64 y, .int .i64 m, .int .i64 d]) ∧ (0 ≤ y ∧ y ≤ 3000) ∧ (0 ≤ m ∧ m ≤ 13) ∧ (0 ≤ d ∧ d ≤ 40) ∧ Below w.heap.size w w'
def dayish (x : Int) : Prop := -1 ≤ x ∧ x ≤ 730500

set_option maxHeartbeats 1000000 in
theorem spec_drawDay (A : Option Addr) (len cap : Nat) (zs : List Int) (W w : World) (g : Nat) (hs : Src A len cap zs W w g) :
    Calls Tryz.prog 88 #[.pointer (some ⟨g, 0, none⟩)] w (DrewP A len cap zs W w g dayish) := by
  have hl := hs.lt
  go_enter Tryz.func88, Tryz.ntmps88
  go_wp2_with fail
  refine (spec_next A len cap zs W _ g 16 hs).mono ?_
  rintro e w1 ⟨x1, rfl, a1, b1, s1, k1⟩
  clear b1
  by_cases h0 : x1 = 0
  · subst h0
    have z1 := k1.size
    go_wp2_with fail
    refine (spec_pick A len cap zs W _ g _ 7 _ [-1, 0, 1, 2, 730498, 730499, 730500] dayish (s1.alloc _) (Blk.new _ _ _) (by omega) rfl (by omega) (by omega) (by simp [dayish])).mono ?_
    rintro e w2 ⟨x2, rfl, a2, s2, k2⟩
    go_wp2_with fail
    go_ret
    exact ⟨x2, rfl, a2, s2, (only_alloc k1 _).trans k2⟩
  · have e0 : (x1 == 0) = false := by simpa using h0
    clear h0
    go_wp2_with fail
    refine (spec_next A len cap zs W _ g 730499 s1).mono ?_
    rintro e w2 ⟨x2, rfl, a2, b2, s2, k2⟩
    have hd : dayish x2 := ⟨by omega, by omega⟩
    have HD := Lib.hid hd
    clear b2 hd
    go_wp2_with fail
    go_ret
    exact ⟨x2, rfl, HD.out, s2, k1.trans k2⟩

end Go.Proofs.YtfhcakpmlppbkaaGreatDoor
