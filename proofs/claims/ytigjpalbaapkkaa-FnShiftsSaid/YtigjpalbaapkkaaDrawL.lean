/- Contracts of spec's draws for the laws over sets. -/
import Derived.Test.YtigjpalbaapkkaaDrawS
import Derived.Test.YtigjpalbaapkkaaSetC
namespace Go.Proofs.Ytigjpalbaapkkaa.Sets
open Go.RowKit

/-- What a call leaves that draws a list of spans near to a set. -/
def DrawnSet (w : World) (e : Ending) (w' : World) : Prop := ∃ (v : Value) (xs : L), e = .returned v ∧ Sm xs ∧ Own w' w.heap.size v xs ∧ Below w.heap.size w w'
/-- And a number beside it. -/
def DrawnSetK (w : World) (e : Ending) (w' : World) : Prop :=
  ∃ (v : Value) (xs : L) (k : Int), e = .returned (.tuple #[v, .int .i64 k]) ∧ Sm xs ∧ -4000000000 ≤ k ∧ k ≤ 4000000000 ∧ Own w' w.heap.size v xs ∧ Below w.heap.size w w'

set_option maxHeartbeats 1000000 in
set_option maxRecDepth 100000 in
theorem spec_DrawCountDays (A : Option Addr) (len cap : Nat) (zs : List Int) (W w : World) (hrow : IsRow .u8 W A len cap zs) (hW : Below W.heap.size W w) :
    Calls Try.prog 54 #[.slice A len cap] w (DrawnSet w) := by
  go_enter Try.func54, Try.ntmps54
  go_wp2_with fail
  refine (spec_from A len cap zs W _ hrow hW).mono ?_
  rintro e w1 ⟨g, rfl, hg, s1, b1⟩
  go_wp2_with fail
  refine (spec_drawSet A len cap zs W _ g s1).mono ?_
  rintro e w2 ⟨v, xs, rfl, hs, own, s2, k2⟩
  have hb := b1.trans (only_below k2 hg b1.size)
  have own2 := own.mono b1.size
  obtain ⟨A2, c2, rfl, -⟩ := own.form
  clear own s1 s2 k2 b1
  go_wp2_with fail
  go_ret
  exact ⟨_, xs, rfl, hs, own2, hb⟩

set_option maxHeartbeats 1000000 in
set_option maxRecDepth 100000 in
theorem spec_DrawShiftSet (A : Option Addr) (len cap : Nat) (zs : List Int) (W w : World) (hrow : IsRow .u8 W A len cap zs) (hW : Below W.heap.size W w) :
    Calls Try.prog 45 #[.slice A len cap] w (DrawnSetK w) := by
  go_enter Try.func45, Try.ntmps45
  go_wp2_with fail
  refine (spec_from A len cap zs W _ hrow hW).mono ?_
  rintro e w1 ⟨g, rfl, hg, s1, b1⟩
  go_wp2_with fail
  refine (spec_drawSet A len cap zs W _ g s1).mono ?_
  rintro e w2 ⟨v, xs, rfl, hs, own, s2, k2⟩
  have hg1 := s1.lt
  have hb := b1.trans (only_below k2 hg b1.size)
  clear s1 k2
  go_wp2_with fail
  refine (spec_next A len cap zs W _ g 60 s2).mono ?_
  rintro e w3 ⟨x, rfl, x0, x1, s3, k3⟩
  have x2 : x < 60 := by omega
  have own3 := own.grown k3 hg1
  have hb3 := hb.trans (only_below k3 hg hb.size)
  clear own s2 k3 hb x1
  go_wp2_with fail
  refine (spec_next A len cap zs W _ g 800000 s3).mono ?_
  rintro e w4 ⟨y, rfl, y0, y1, s4, k4⟩
  have y2 : y < 800000 := by omega
  have own4 := own3.grown k4 hg1
  have hb4 := hb3.trans (only_below k4 hg hb3.size)
  clear own3 s3 k4 hb3 y1
  go_wp2_with fail
  have q := Blk.new w4 2 #[.int .i64 (x - 30), .int .i64 (y - 400000), .int .i64 (-400050), .int .i64 730499, .int .i64 (-730500)]
  have hne : w4.heap.size ≠ g := by have := s4.lt; omega
  refine (spec_pick A len cap zs W _ g w4.heap.size 5 2 [x - 30, y - 400000, -400050, 730499, -730500] (fun p => -4000000000 ≤ p ∧ p ≤ 4000000000) (s4.alloc _) q hne rfl (by omega) (by omega) (by intro z hz; simp at hz; omega)).mono ?_
  rintro e w5 ⟨p, rfl, ⟨p0, p1⟩, s5, k5⟩
  have own5 := (own4.below (w' := w4.alloc (.cells #[.int .i64 (x - 30), .int .i64 (y - 400000), .int .i64 (-400050), .int .i64 730499, .int .i64 (-730500)] 2)) ((Below.refl _ _).alloc (Nat.le_refl _) _)).grown k5 hg1
  have hb5 := (hb4.alloc hb4.size (.cells #[.int .i64 (x - 30), .int .i64 (y - 400000), .int .i64 (-400050), .int .i64 730499, .int .i64 (-730500)] 2)).trans (only_below k5 hg (hb4.alloc hb4.size _).size)
  have own6 := own5.mono b1.size
  obtain ⟨A2, c2, rfl, -⟩ := own5.form
  clear own4 own5 s4 s5 k5 hb4 q hne
  go_wp2_with fail
  go_ret2
  exact ⟨_, xs, p, rfl, hs, p0, p1, own6, hb5⟩

def dayish (x : Int) : Prop := -1 ≤ x ∧ x ≤ 730500

set_option maxHeartbeats 1000000 in
theorem spec_drawDay (A : Option Addr) (len cap : Nat) (zs : List Int) (W w : World) (g : Nat) (hs : Src A len cap zs W w g) :
    Calls Try.prog 68 #[.pointer (some ⟨g, 0, none⟩)] w (DrewP A len cap zs W w g dayish) := by
  have hl := hs.lt
  go_enter Try.func68, Try.ntmps68
  go_wp2_with fail
  refine (spec_next A len cap zs W _ g 16 hs).mono ?_
  rintro e w1 ⟨x1, rfl, a1, b1, s1, k1⟩
  clear b1
  by_cases h0 : x1 = 0
  · subst h0
    have z1 := k1.size
    go_wp2_with fail
    refine (spec_pick A len cap zs W _ g _ 7 _ [-1, 0, 1, 2, 730498, 730499, 730500] dayish (s1.alloc _) (Blk.new _ _ _) (by omega) rfl (by omega) (by omega) (by simp [dayish])).mono ?_
    rintro e w2 ⟨x2, rfl, a2, s2, k2⟩
    go_wp2_with fail
    go_ret
    exact ⟨x2, rfl, a2, s2, (only_alloc k1 _).trans k2⟩
  · have e0 : (x1 == 0) = false := by simpa using h0
    clear h0
    go_wp2_with fail
    refine (spec_next A len cap zs W _ g 730499 s1).mono ?_
    rintro e w2 ⟨x2, rfl, a2, b2, s2, k2⟩
    have hd : dayish x2 := ⟨by omega, by omega⟩
    have HD := Lib.hid hd
    clear b2 hd
    go_wp2_with fail
    go_ret
    exact ⟨x2, rfl, HD.out, s2, k1.trans k2⟩

set_option maxHeartbeats 1000000 in
set_option maxRecDepth 100000 in
theorem spec_DrawHasDay (A : Option Addr) (len cap : Nat) (zs : List Int) (W w : World) (hrow : IsRow .u8 W A len cap zs) (hW : Below W.heap.size W w) :
    Calls Try.prog 51 #[.slice A len cap] w (DrawnSetK w) := by
  go_enter Try.func51, Try.ntmps51
  go_wp2_with fail
  refine (spec_from A len cap zs W _ hrow hW).mono ?_
  rintro e w1 ⟨g, rfl, hg, s1, b1⟩
  have hg1 := s1.lt
  go_wp2_with fail
  refine (spec_next A len cap zs W _ g 16 s1).mono ?_
  rintro e w2 ⟨x, rfl, x0, x1, s2, k2⟩
  have hb2 := b1.trans (only_below k2 hg b1.size)
  clear s1 k2 x1
  by_cases h0 : x = 0
  · subst h0
    go_wp2_with fail
    refine (spec_drawSet A len cap zs W _ g s2).mono ?_
    rintro e w3 ⟨v, xs, rfl, hs, own, s3, k3⟩
    have hg2 := s2.lt
    have hb3 := hb2.trans (only_below k3 hg hb2.size)
    clear s2 k3
    go_wp2_with fail
    refine (spec_drawDay A len cap zs W _ g s3).mono ?_
    rintro e w4 ⟨d, rfl, hd, s4, k4⟩
    have own4 := (own.grown k4 hg2).mono hb2.size
    have hb4 := hb3.trans (only_below k4 hg hb3.size)
    have HD := Lib.hid hd
    obtain ⟨A2, c2, rfl, -⟩ := own4.form
    clear own s3 s4 k4 hb3 hb2 hd
    go_wp2_with fail
    go_ret2
    exact ⟨_, xs, d, rfl, hs, by have := HD.out.1; omega, by have := HD.out.2; omega, own4, hb4⟩
  · have e0 : (x == 0) = false := by simpa using h0
    clear h0
    go_wp2_with fail
    refine (spec_drawSet A len cap zs W _ g s2).mono ?_
    rintro e w3 ⟨v, xs, rfl, hs, own, s3, k3⟩
    have hg2 := s2.lt
    have hb3 := hb2.trans (only_below k3 hg hb2.size)
    clear s2 k3
    go_wp2_with fail
    refine (spec_next A len cap zs W _ g 250 s3).mono ?_
    rintro e w4 ⟨d, rfl, d0, d1, s4, k4⟩
    have d2 : d < 250 := by omega
    have own4 := (own.grown k4 hg2).mono hb2.size
    have hb4 := hb3.trans (only_below k4 hg hb3.size)
    obtain ⟨A2, c2, rfl, -⟩ := own4.form
    clear own s3 s4 k4 hb3 hb2 d1
    go_wp2_with fail
    go_ret2
    exact ⟨_, xs, _, rfl, hs, by omega, by omega, own4, hb4⟩

set_option maxHeartbeats 1000000 in
set_option maxRecDepth 100000 in
theorem spec_DrawNthDay (A : Option Addr) (len cap : Nat) (zs : List Int) (W w : World) (hrow : IsRow .u8 W A len cap zs) (hW : Below W.heap.size W w) :
    Calls Try.prog 48 #[.slice A len cap] w (DrawnSetK w) := by
  go_enter Try.func48, Try.ntmps48
  go_wp2_with fail
  refine (spec_from A len cap zs W _ hrow hW).mono ?_
  rintro e w1 ⟨g, rfl, hg, s1, b1⟩
  go_wp2_with fail
  refine (spec_drawSet A len cap zs W _ g s1).mono ?_
  rintro e w2 ⟨v, xs, rfl, hs, own, s2, k2⟩
  have hg1 := s1.lt
  have hb2 := b1.trans (only_below k2 hg b1.size)
  obtain ⟨A2, c2, rfl, hr2⟩ := own.form
  have rd2 := hr2.rd
  have cb := hs.cnt_drop 0
  simp only [List.drop_zero] at cb
  obtain ⟨cb0, cb1⟩ := cb
  clear s1 k2 hr2
  go_wp2_with fail
  refine (spec_count A2 xs.length c2 xs _ rd2 hs).mono ?_
  rintro e w3 ⟨rfl, b3⟩
  have own3 := own.below b3
  have s3 := s2.below b3
  have hb3 := below_on hb2 b3
  clear own s2 b3 hb2 rd2
  obtain ⟨m, hm⟩ : ∃ m, max 1 (cnt xs) = m := ⟨_, rfl⟩
  obtain ⟨hm0, hm1⟩ : 1 ≤ m ∧ m ≤ 2002002000 := by omega
  have cM : (if 1 < cnt xs then cnt xs else 1) = m := by split <;> omega
  go_wp2_with fail
  refine (spec_next A len cap zs W _ g (m + 1) s3).mono ?_
  rintro e w4 ⟨x, rfl, x0, x1, s4, k4⟩
  have x2 : x ≤ 2002002001 := by omega
  have own4 := own3.grown k4 hg1
  have hb4 := hb3.trans (only_below k4 hg hb3.size)
  clear own3 s3 k4 hb3 x1 hm
  go_wp2_with fail
  refine (spec_next A len cap zs W _ g 20 s4).mono ?_
  rintro e w5 ⟨y, rfl, y0, y1, s5, k5⟩
  have y2 : y < 20 := by omega
  have own5 := (own4.grown k5 hg1).mono b1.size
  have hb5 := hb4.trans (only_below k5 hg hb4.size)
  have q0 : 0 ≤ y / 19 := by omega
  have q1 : y / 19 ≤ 2 := by omega
  clear own4 s4 s5 k5 hb4 y1
  go_wp2_with fail
  go_ret2
  exact ⟨_, xs, _, rfl, hs, by omega, by omega, own5, hb5⟩

end Go.Proofs.Ytigjpalbaapkkaa.Sets
