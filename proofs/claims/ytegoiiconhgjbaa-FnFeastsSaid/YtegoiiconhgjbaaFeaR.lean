/- Contracts of spec's draws of chapter 5. -/
import Derived.Test.YtegoiiconhgjbaaDraw5
import Derived.Test.YtegoiiconhgjbaaFeaQ
namespace Go.Proofs.Ytegoiiconhgjbaa.Fea
open Go.RowKit

def yearish (x : Int) : Prop := 0 ≤ x ∧ x ≤ 2001

set_option maxHeartbeats 1000000 in
theorem spec_drawYearF (A : Option Addr) (len cap : Nat) (zs : List Int) (W w : World) (g : Nat) (hs : Src A len cap zs W w g) :
    Calls Try.prog 68 #[.pointer (some ⟨g, 0, none⟩)] w (DrewP A len cap zs W w g yearish) := by
  have hl := hs.lt
  go_enter Try.func68, Try.ntmps68
  go_wp2_with fail
  refine (spec_next A len cap zs W _ g 20 hs).mono ?_
  rintro e w1 ⟨x1, rfl, a1, b1, s1, k1⟩
  clear b1
  by_cases h0 : x1 = 0
  · subst h0
    have z1 := k1.size
    go_wp2_with fail
    refine (spec_pick A len cap zs W _ g _ 6 _ [0, 1, 1582, 1583, 2000, 2001] yearish (s1.alloc _) (Blk.new _ _ _) (by omega) rfl (by omega) (by omega) (by simp [yearish])).mono ?_
    rintro e w2 ⟨x2, rfl, a2, s2, k2⟩
    go_wp2_with fail
    go_ret
    exact ⟨x2, rfl, a2, s2, (only_alloc k1 _).trans k2⟩
  · have e0 : (x1 == 0) = false := by simpa using h0
    clear h0
    go_wp2_with fail
    refine (spec_next A len cap zs W _ g 2000 s1).mono ?_
    rintro e w2 ⟨x2, rfl, a2, b2, s2, k2⟩
    have b3 : x2 < 2000 := by omega
    have HD := Lib.hid (show yearish (1 + x2) from ⟨by omega, by omega⟩)
    clear b2
    go_wp2_with fail
    go_ret
    exact ⟨1 + x2, rfl, HD.out, s2, k1.trans k2⟩

/-- What a call leaves that draws a feast, a relation and a weekday. -/
def Drew3 (A : Option Addr) (len cap : Nat) (zs : List Int) (W w : World) (g : Nat) (e : Ending) (w' : World) : Prop :=
  ∃ f r k : Int, e = .returned (.tuple #[.int .i64 f, .int .i64 r, .int .i64 k]) ∧ Src A len cap zs W w' g ∧ w.grownBy w' (some g)

set_option maxHeartbeats 2000000 in
theorem spec_l05Draw (A : Option Addr) (len cap : Nat) (zs : List Int) (W w : World) (g : Nat) (hs : Src A len cap zs W w g) :
    Calls Try.prog 88 #[.pointer (some ⟨g, 0, none⟩)] w (Drew3 A len cap zs W w g) := by
  have hl := hs.lt
  go_enter Try.func88, Try.ntmps88
  go_wp2_with fail
  refine (spec_next A len cap zs W _ g 20 hs).mono ?_
  rintro e w1 ⟨x1, rfl, a1, b1, s1, k1⟩
  clear b1 a1
  go_wp2_with fail
  refine (spec_next A len cap zs W _ g 5 s1).mono ?_
  rintro e w2 ⟨x2, rfl, a2, b2, s2, k2⟩
  clear b2 s1
  replace k2 := k1.trans k2
  clear k1
  go_wp2_with fail
  refine (spec_next A len cap zs W _ g 7 s2).mono ?_
  rintro e w3 ⟨x3, rfl, a3, b3, s3, k3⟩
  clear b3 s2
  replace k3 := k2.trans k3
  clear k2
  have z3 := k3.size
  by_cases h3 : x2 < 3
  · skip
    go_wp2_with fail
    refine (spec_next A len cap zs W _ g 40 s3).mono ?_
    rintro e w4 ⟨x4, rfl, a4, b4, s4, k4⟩
    clear b4 s3
    replace k4 := k3.trans k4
    clear k3 a4
    have z4 := k4.size
    by_cases h0 : x4 = 0
    · subst h0
      go_wp2_with fail
      refine (spec_pick A len cap zs W _ g _ 2 _ [-1, 20] (fun _ => True) (s4.alloc _) (Blk.new _ _ _) (by omega) rfl (by omega) (by omega) (by simp)).mono ?_
      rintro e w5 ⟨x5, rfl, -, s5, k5⟩
      go_wp2_with fail
      go_ret3
      exact ⟨_, _, _, rfl, s5, (only_alloc k4 _).trans k5⟩
    · have e0 : (x4 == 0) = false := by simpa using h0
      clear h0
      by_cases h1 : x4 = 1
      · subst h1
        clear e0
        go_wp2_with fail
        refine (spec_pick A len cap zs W _ g _ 3 _ [-1, 5, 0] (fun _ => True) (s4.alloc _) (Blk.new _ _ _) (by omega) rfl (by omega) (by omega) (by simp)).mono ?_
        rintro e w5 ⟨x5, rfl, -, s5, k5⟩
        replace k5 := (only_alloc k4 _).trans k5
        have z5 := k5.size
        go_wp2_with fail
        refine (spec_pick A len cap zs W _ g _ 3 _ [-1, 7, 1] (fun _ => True) (s5.alloc _) (Blk.new _ _ _) (by omega) rfl (by omega) (by omega) (by simp)).mono ?_
        rintro e w6 ⟨x6, rfl, -, s6, k6⟩
        go_wp2_with fail
        go_ret3
        exact ⟨_, _, _, rfl, s6, (only_alloc k5 _).trans k6⟩
      · have e1 : (x4 == 1) = false := by simpa using h1
        clear h1
        go_wp2_with fail
        go_ret3
        exact ⟨_, _, _, rfl, s4, k4⟩
  · have h3 : (3 : Int) ≤ x2 := by omega
    go_wp2_with fail
    refine (spec_next A len cap zs W _ g 40 s3).mono ?_
    rintro e w4 ⟨x4, rfl, a4, b4, s4, k4⟩
    clear b4 s3
    replace k4 := k3.trans k4
    clear k3 a4
    have z4 := k4.size
    by_cases h0 : x4 = 0
    · subst h0
      go_wp2_with fail
      refine (spec_pick A len cap zs W _ g _ 2 _ [-1, 20] (fun _ => True) (s4.alloc _) (Blk.new _ _ _) (by omega) rfl (by omega) (by omega) (by simp)).mono ?_
      rintro e w5 ⟨x5, rfl, -, s5, k5⟩
      go_wp2_with fail
      go_ret3
      exact ⟨_, _, _, rfl, s5, (only_alloc k4 _).trans k5⟩
    · have e0 : (x4 == 0) = false := by simpa using h0
      clear h0
      by_cases h1 : x4 = 1
      · subst h1
        clear e0
        go_wp2_with fail
        refine (spec_pick A len cap zs W _ g _ 3 _ [-1, 5, 0] (fun _ => True) (s4.alloc _) (Blk.new _ _ _) (by omega) rfl (by omega) (by omega) (by simp)).mono ?_
        rintro e w5 ⟨x5, rfl, -, s5, k5⟩
        replace k5 := (only_alloc k4 _).trans k5
        have z5 := k5.size
        go_wp2_with fail
        refine (spec_pick A len cap zs W _ g _ 3 _ [-1, 7, 1] (fun _ => True) (s5.alloc _) (Blk.new _ _ _) (by omega) rfl (by omega) (by omega) (by simp)).mono ?_
        rintro e w6 ⟨x6, rfl, -, s6, k6⟩
        go_wp2_with fail
        go_ret3
        exact ⟨_, _, _, rfl, s6, (only_alloc k5 _).trans k6⟩
      · have e1 : (x4 == 1) = false := by simpa using h1
        clear h1
        go_wp2_with fail
        go_ret3
        exact ⟨_, _, _, rfl, s4, k4⟩

/-- What a call leaves that draws four numbers. -/
def Drawn4 (w : World) (e : Ending) (w' : World) : Prop := ∃ a b c d : Int, e = .returned (.tuple #[.int .i64 a, .int .i64 b, .int .i64 c, .int .i64 d]) ∧ Below w.heap.size w w'

set_option maxHeartbeats 1000000 in
theorem spec_DrawRelatedDay (A : Option Addr) (len cap : Nat) (zs : List Int) (W w : World) (hrow : IsRow .u8 W A len cap zs) (hW : Below W.heap.size W w) :
    Calls Try.prog 32 #[.slice A len cap] w (Drawn4 w) := by
  go_enter Try.func32, Try.ntmps32
  go_wp2_with fail
  refine (spec_from A len cap zs W _ hrow hW).mono ?_
  rintro e w1 ⟨g, rfl, hg, hs, hb⟩
  go_wp2_with fail
  refine (spec_l05Draw A len cap zs W _ g hs).mono ?_
  rintro e w2 ⟨f, r, k, rfl, s2, k2⟩
  go_wp2_with fail
  refine (spec_drawYearF A len cap zs W _ g s2).mono ?_
  rintro e w3 ⟨y, rfl, hy, s3, k3⟩
  go_wp2_with fail
  refine bodyPost_ret (v := .tuple #[.int .i64 f, .int .i64 r, .int .i64 k, .int .i64 y]) (by simp [results, Try.results32, go_sem]) rfl ⟨_, _, _, _, rfl, hb.trans (only_below (k2.trans k3) hg hb.size)⟩

set_option maxHeartbeats 1000000 in
theorem spec_DrawFeastsOn (A : Option Addr) (len cap : Nat) (zs : List Int) (W w : World) (hrow : IsRow .u8 W A len cap zs) (hW : Below W.heap.size W w) :
    Calls Try.prog 35 #[.slice A len cap] w (DrawnP dayish w) := by
  go_enter Try.func35, Try.ntmps35
  go_wp2_with fail
  refine (spec_from A len cap zs W _ hrow hW).mono ?_
  rintro e w1 ⟨g, rfl, hg, hs, hb⟩
  go_wp2_with fail
  refine (spec_next A len cap zs W _ g 20 hs).mono ?_
  rintro e w2 ⟨f, rfl, f0, f1, s2, k2⟩
  go_wp2_with fail
  refine (spec_next A len cap zs W _ g 2000 s2).mono ?_
  rintro e w3 ⟨y, rfl, y0, y1, s3, k3⟩
  replace k3 := k2.trans k3
  have hf : isF f := ⟨f0, by omega⟩
  have hy : Eas.isY (1 + y) := ⟨by omega, by omega⟩
  have yb : y ≤ 1999 := by omega
  have D := Lib.hid (spec_day f (1 + y) hf hy)
  have hd : dayish (fd f (1 + y)) := ⟨by have := (fd_bd f (1 + y) hy).1; omega, by have := (fd_bd f (1 + y) hy).2; omega⟩
  have HD := Lib.hid hd
  clear hf hy hd s2 k2 f1 y1
  generalize fd f (1 + y) = n at D HD
  go_wp2_with fail
  refine (D.out _).mono ?_
  rintro e w4 ⟨rfl, hb4⟩
  have s4 := s3.below hb4
  have k4 := k3.trans (only_of_below hb4 (some g))
  clear s3 k3 hb4
  go_wp2_with fail
  refine (spec_next A len cap zs W _ g 3 s4).mono ?_
  rintro e w5 ⟨x, rfl, x0, x1, s5, k5⟩
  replace k5 := k4.trans k5
  clear s4 k4 x1
  by_cases h0 : x = 0
  · subst h0
    go_wp2_with fail
    refine (spec_drawDay A len cap zs W _ g s5).mono ?_
    rintro e w6 ⟨z, rfl, hz, s6, k6⟩
    go_wp2_with fail
    go_ret
    exact ⟨z, rfl, hz, hb.trans (only_below (k5.trans k6) hg hb.size)⟩
  · have e0 : (x == 0) = false := by simpa using h0
    clear h0
    go_wp2_with fail
    go_ret
    exact ⟨n, rfl, HD.out, hb.trans (only_below k5 hg hb.size)⟩

def feastish (x : Int) : Prop := -1 ≤ x ∧ x ≤ 20
set_option maxHeartbeats 1000000 in
theorem spec_DrawFeastName (A : Option Addr) (len cap : Nat) (zs : List Int) (W w : World) (hrow : IsRow .u8 W A len cap zs) (hW : Below W.heap.size W w) :
    Calls Try.prog 38 #[.slice A len cap] w (DrawnP feastish w) := by
  go_enter Try.func38, Try.ntmps38
  go_wp2_with fail
  refine (spec_from A len cap zs W _ hrow hW).mono ?_
  rintro e w1 ⟨g, rfl, hg, hs, hb⟩
  go_wp2_with fail
  refine (spec_next A len cap zs W _ g 22 hs).mono ?_
  rintro e w2 ⟨f, rfl, f0, f1, s2, k2⟩
  have f2 : f ≤ 21 := by omega
  have HF := Lib.hid (show feastish (f - 1) from ⟨by omega, by omega⟩)
  clear f1
  go_wp2_with fail
  go_ret
  exact ⟨f - 1, rfl, HF.out, hb.trans (only_below k2 hg hb.size)⟩

/-- What a call leaves that draws a text. -/
def DrawnS (w : World) (e : Ending) (w' : World) : Prop := ∃ s : ByteArray, e = .returned (.string s) ∧ Below w.heap.size w w'
def nvV : Array Value := #[Value.string { data := #[] }, Value.string { data := #[108, 101, 110, 116] }, Value.string { data := #[101, 97, 115, 116, 101] }, Value.string { data := #[106, 111, 104, 110, 115] }, Value.string { data := #[69, 97, 115, 116, 101, 114] }]
theorem nvV_get (j : Nat) (h : j < 5) : ∃ t, nvV[j]? = some (.string t) := by
  have : j = 0 ∨ j = 1 ∨ j = 2 ∨ j = 3 ∨ j = 4 := by omega
  rcases this with rfl | rfl | rfl | rfl | rfl <;> exact ⟨_, rfl⟩

set_option maxHeartbeats 1000000 in
theorem spec_DrawFeastNamed (A : Option Addr) (len cap : Nat) (zs : List Int) (W w : World) (hrow : IsRow .u8 W A len cap zs) (hW : Below W.heap.size W w) :
    Calls Try.prog 41 #[.slice A len cap] w (DrawnS w) := by
  go_enter Try.func41, Try.ntmps41
  go_wp2_with fail
  refine (spec_from A len cap zs W _ hrow hW).mono ?_
  rintro e w1 ⟨g, rfl, hg, hs, hb⟩
  go_wp2_with fail
  refine (spec_next A len cap zs W _ g 4 hs).mono ?_
  rintro e w2 ⟨x, rfl, x0, x1, s2, k2⟩
  clear x1
  by_cases h0 : x = 0
  · subst h0
    have hgl := s2.lt
    go_wp2_with fail
    have B0 := Blk.new w2 9 nvV
    have s3 := s2.alloc (.cells nvV 9)
    refine (spec_next A len cap zs W _ g 5 s3).mono ?_
    rintro e w3 ⟨y, rfl, y0, y1, s4, k4⟩
    obtain ⟨j, rfl⟩ : ∃ j : Nat, y = j := ⟨y.toNat, by omega⟩
    have hj : j < 5 := by omega
    obtain ⟨t, ht⟩ := nvV_get j hj
    have B1 := B0.grown k4 (by intro e; injection e with e; omega)
    have c0 := (B1.cell j).trans ht
    have kk := (only_alloc k2 (.cells nvV 9)).trans k4
    clear ht B0 B1 y1 s3 k4
    go_wp2_with fail
    go_ret
    exact ⟨t, rfl, hb.trans (only_below kk hg hb.size)⟩
  · have e0 : (x == 0) = false := by simpa using h0
    clear h0
    go_wp2_with fail
    refine (spec_names _).mono ?_
    rintro e w3 ⟨b, rfl, B0, ⟨hge, -⟩, hb3⟩
    have s3 := s2.below hb3
    have hbg : some b ≠ some g := by
      have := s2.lt
      intro e
      injection e with e
      omega
    have k3 := k2.trans (only_of_below hb3 (some g))
    have HB := Lib.hid B0
    clear s2 k2 hb3 B0
    go_wp2_with fail
    refine (spec_next A len cap zs W _ g 20 s3).mono ?_
    rintro e w4 ⟨y, rfl, y0, y1, s4, k4⟩
    obtain ⟨j, rfl⟩ : ∃ j : Nat, y = j := ⟨y.toNat, by omega⟩
    have hj : j < 20 := by omega
    have c0 := ((HB.out.grown k4 hbg).cell j).trans (nmV_get j hj)
    have kk := k3.trans k4
    clear y1 s3 k4 hbg
    generalize bs (nmL (j : Int)) = t at c0
    go_wp2_with fail
    go_ret
    exact ⟨t, rfl, hb.trans (only_below kk hg hb.size)⟩

/-- What a call leaves that draws five numbers. -/
def Drawn5 (w : World) (e : Ending) (w' : World) : Prop := ∃ a b c d x : Int, e = .returned (.tuple #[.int .i64 a, .int .i64 b, .int .i64 c, .int .i64 d, .int .i64 x]) ∧ Below w.heap.size w w'

set_option maxHeartbeats 1000000 in
theorem spec_DrawFeastDays (A : Option Addr) (len cap : Nat) (zs : List Int) (W w : World) (hrow : IsRow .u8 W A len cap zs) (hW : Below W.heap.size W w) :
    Calls Try.prog 45 #[.slice A len cap] w (Drawn5 w) := by
  go_enter Try.func45, Try.ntmps45
  go_wp2_with fail
  refine (spec_from A len cap zs W _ hrow hW).mono ?_
  rintro e w1 ⟨g, rfl, hg, hs, hb⟩
  go_wp2_with fail
  refine (spec_l05Draw A len cap zs W _ g hs).mono ?_
  rintro e w2 ⟨f, r, k, rfl, s2, k2⟩
  go_wp2_with fail
  refine (spec_drawDay A len cap zs W _ g s2).mono ?_
  rintro e w3 ⟨a, rfl, ha, s3, k3⟩
  replace k3 := k2.trans k3
  obtain ⟨a0, a1⟩ := ha
  clear k2 s2
  go_wp2_with fail
  refine (spec_next A len cap zs W _ g 20 s3).mono ?_
  rintro e w4 ⟨x, rfl, x0, x1, s4, k4⟩
  replace k4 := k3.trans k4
  have z4 := k4.size
  have hl := s4.lt
  clear k3 s3 x1
  by_cases h0 : x = 0
  · subst h0
    go_wp2_with fail
    refine (spec_pick A len cap zs W _ g _ 5 _ [a - 1, a, a + 73000, a + 73001, 730500] (fun _ => True) (s4.alloc _) (Blk.new _ _ _) (by omega) rfl (by omega) (by omega) (by simp)).mono ?_
    rintro e w5 ⟨b, rfl, -, s5, k5⟩
    go_wp2_with fail
    refine bodyPost_ret (v := .tuple #[.int .i64 f, .int .i64 r, .int .i64 k, .int .i64 a, .int .i64 b]) (by simp [results, Try.results45, go_sem]) rfl ⟨_, _, _, _, _, rfl, hb.trans (only_below ((only_alloc k4 _).trans k5) hg hb.size)⟩
  · have e0 : (x == 0) = false := by simpa using h0
    clear h0
    go_wp2_with fail
    refine (spec_next A len cap zs W _ g 3000 s4).mono ?_
    rintro e w5 ⟨b, rfl, b0, b1, s5, k5⟩
    have b2 : b < 3000 := by omega
    clear b1
    go_wp2_with fail
    refine bodyPost_ret (v := .tuple #[.int .i64 f, .int .i64 r, .int .i64 k, .int .i64 a, .int .i64 (a + b)]) (by simp [results, Try.results45, go_sem]) rfl ⟨_, _, _, _, _, rfl, hb.trans (only_below (k4.trans k5) hg hb.size)⟩

set_option maxHeartbeats 1000000 in
theorem spec_DrawNearestFeast (A : Option Addr) (len cap : Nat) (zs : List Int) (W w : World) (hrow : IsRow .u8 W A len cap zs) (hW : Below W.heap.size W w) :
    Calls Try.prog 48 #[.slice A len cap] w (DrawnP dayish w) := by
  go_enter Try.func48, Try.ntmps48
  go_wp2_with fail
  refine (spec_from A len cap zs W _ hrow hW).mono ?_
  rintro e w1 ⟨g, rfl, hg, hs, hb⟩
  go_wp2_with fail
  refine (spec_drawDay A len cap zs W _ g hs).mono ?_
  rintro e w2 ⟨x, rfl, hx, s2, k2⟩
  go_wp2_with fail
  go_ret
  exact ⟨x, rfl, hx, hb.trans (only_below k2 hg hb.size)⟩

set_option maxHeartbeats 1000000 in
theorem spec_DrawNextFeast (A : Option Addr) (len cap : Nat) (zs : List Int) (W w : World) (hrow : IsRow .u8 W A len cap zs) (hW : Below W.heap.size W w) :
    Calls Try.prog 51 #[.slice A len cap] w (DrawnP dayish w) := by
  go_enter Try.func51, Try.ntmps51
  go_wp2_with fail
  refine (spec_from A len cap zs W _ hrow hW).mono ?_
  rintro e w1 ⟨g, rfl, hg, hs, hb⟩
  go_wp2_with fail
  refine (spec_drawDay A len cap zs W _ g hs).mono ?_
  rintro e w2 ⟨x, rfl, hx, s2, k2⟩
  go_wp2_with fail
  go_ret
  exact ⟨x, rfl, hx, hb.trans (only_below k2 hg hb.size)⟩

end Go.Proofs.Ytegoiiconhgjbaa.Fea
