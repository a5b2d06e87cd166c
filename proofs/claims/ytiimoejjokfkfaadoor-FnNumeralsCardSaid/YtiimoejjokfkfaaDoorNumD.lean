/- Contracts of spec's draws of numbers with numerals. -/
import Derived.Test.YtiimoejjokfkfaaDoorNumM
import Derived.Test.YtiimoejjokfkfaaDoorDraw5
namespace Go.Proofs.YtiimoejjokfkfaaDoor.Num
open Go.RowKit

/-- What is drawn as a number with a numeral. -/
def numish (x : Int) : Prop := -1 ≤ x ∧ x ≤ 4000

set_option maxHeartbeats 1000000 in
theorem spec_drawNumber (A : Option Addr) (len cap : Nat) (zs : List Int) (W w : World) (g : Nat) (hs : Src A len cap zs W w g) :
    Calls Tryd.prog 27 #[.pointer (some ⟨g, 0, none⟩)] w (DrewP A len cap zs W w g numish) := by
  have hl := hs.lt
  go_enter Tryd.func27, Tryd.ntmps27
  go_wp2_with fail
  refine (spec_next A len cap zs W _ g 24 hs).mono ?_
  rintro e w1 ⟨x1, rfl, a1, b1, s1, k1⟩
  clear b1
  by_cases h0 : x1 = 0
  · subst h0
    have z1 := k1.size
    go_wp2_with fail
    refine (spec_pick A len cap zs W _ g _ 5 _ [-1, 0, 1, 3999, 4000] numish (s1.alloc _) (Blk.new _ _ _) (by omega) rfl (by omega) (by omega) (by simp [numish])).mono ?_
    rintro e w2 ⟨x2, rfl, a2, s2, k2⟩
    go_wp2_with fail
    go_ret
    exact ⟨x2, rfl, a2, s2, (only_alloc k1 _).trans k2⟩
  · have e0 : (x1 == 0) = false := by simpa using h0
    clear h0
    have z1 := k1.size
    go_wp2_with fail
    refine (spec_pick A len cap zs W _ g _ 3 _ [20, 100, 3999] (fun x => 20 ≤ x ∧ x ≤ 3999) (s1.alloc _) (Blk.new _ _ _) (by omega) rfl (by omega) (by omega) (by simp)).mono ?_
    rintro e w2 ⟨m, rfl, ⟨m1, m2⟩, s2, k2⟩
    go_wp2_with fail
    refine (spec_next A len cap zs W _ g m s2).mono ?_
    rintro e w3 ⟨x2, rfl, a2, b2, s3, k3⟩
    have b3 : x2 < 3999 := by omega
    have HD := Lib.hid (show numish (1 + x2) from ⟨by omega, by omega⟩)
    clear b2
    go_wp2_with fail
    go_ret
    exact ⟨1 + x2, rfl, HD.out, s3, ((only_alloc k1 _).trans k2).trans k3⟩

set_option maxHeartbeats 1000000 in
theorem spec_DrawNumeralText (A : Option Addr) (len cap : Nat) (zs : List Int) (W w : World) (hrow : IsRow .u8 W A len cap zs) (hW : Below W.heap.size W w) :
    Calls Tryd.prog 8 #[.slice A len cap] w (DrawnP numish w) := by
  go_enter Tryd.func8, Tryd.ntmps8
  go_wp2_with fail
  refine (spec_from A len cap zs W _ hrow hW).mono ?_
  rintro e w1 ⟨g, rfl, hg, hs, hb⟩
  go_wp2_with fail
  refine (spec_drawNumber A len cap zs W _ g hs).mono ?_
  rintro e w2 ⟨x, rfl, hx, s2, k2⟩
  go_wp2_with fail
  go_ret
  exact ⟨x, rfl, hx, hb.trans (only_below k2 hg hb.size)⟩

set_option maxHeartbeats 1000000 in
theorem spec_DrawOrdinalText (A : Option Addr) (len cap : Nat) (zs : List Int) (W w : World) (hrow : IsRow .u8 W A len cap zs) (hW : Below W.heap.size W w) :
    Calls Tryd.prog 16 #[.slice A len cap] w (DrawnP (fun x => -1 ≤ x ∧ x ≤ 32) w) := by
  go_enter Tryd.func16, Tryd.ntmps16
  go_wp2_with fail
  refine (spec_from A len cap zs W _ hrow hW).mono ?_
  rintro e w1 ⟨g, rfl, hg, hs, hb⟩
  go_wp2_with fail
  refine (spec_next A len cap zs W _ g 34 hs).mono ?_
  rintro e w2 ⟨x, rfl, a2, b2, s2, k2⟩
  have b3 : x < 34 := by omega
  clear b2
  go_wp2_with fail
  go_ret
  exact ⟨x - 1, rfl, ⟨by omega, by omega⟩, hb.trans (only_below k2 hg hb.size)⟩

end Go.Proofs.YtiimoejjokfkfaaDoor.Num
